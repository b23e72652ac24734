/-
  Several texts, joined: ORWt, OMa, LOUnd, OPlug, RoNe.
-/
import Derived.Test.YtkohhdkkbaifoaaGreatDoorORNo
import Derived.Test.YtkohhdkkbaifoaaGreatDoorJn16
import Derived.Test.YtkohhdkkbaifoaaGreatDoorPz
import Derived.Test.YtkohhdkkbaifoaaGreatDoorJn5
import Derived.OrdersHeld
/-
  Contract of the document's Write (chapter 8).
-/
namespace Go.Proofs.YtkohhdkkbaifoaaGreatDoor
open Go.RowKit PK Vg

structure WtAt (w W:World) (a b c:Value) (rf pl:Nat→Int):Prop where
 mg:MgAt w W a b c rf pl
 res:RowAt W (w.heap.size+1) 35 #[.int .i64 0,.int .i64 0]
theorem WtAt.new (w:World) (a b c:Value) (rf pl:Nat→Int):WtAt w ((w.alloc (.cells (mac a b c rf pl) 29)).alloc (.cells #[.int .i64 0,.int .i64 0] 35)) a b c rf pl:=by
 have h:=RowAt.new (w.alloc (.cells (mac a b c rf pl) 29)) 35 #[.int .i64 0,.int .i64 0]
 rw[World.size_alloc] at h
 exact ⟨(MgAt.new w a b c rf pl).alloc _,h⟩
section
variable {w W W':World} {a b c:Value} {rf pl:Nat→Int}
theorem WtAt.step (h:WtAt w W a b c rf pl) (hb:Below W.heap.size W W'):WtAt w W' a b c rf pl:=⟨h.mg.step hb,h.res.below hb h.res.lt⟩
theorem WtAt.alloc (h:WtAt w W a b c rf pl) (o:Obj):WtAt w (W.alloc o) a b c rf pl:=h.step ((Below.refl _ _).alloc (Nat.le_refl _) o)
theorem WtAt.done (h:WtAt w W a b c rf pl) (x y:Value):Below w.heap.size w ((W.setCell ⟨w.heap.size+1,0,none⟩ x).setCell ⟨w.heap.size+1,1,none⟩ y):=(h.mg.below.setCell (p:=⟨w.heap.size+1,0,none⟩) (by simp) _).setCell (p:=⟨w.heap.size+1,1,none⟩) (by simp) _
theorem WtAt.load (h:WtAt w W a b c rf pl):W.heap[w.heap.size]? = some (.cells (mac a b c rf pl) 29 (0,0)):=h.mg.row
end
theorem run_index_u8 {P:Program} (t e:TypeId) (n:Nat) (hu:P.underlying t=some (.array n e)) (he:P.underlying e=some (.int .i64)) (hs:(P.info? e).map (·.size)=some 1) (f:Nat→Int) (k:Nat) (hk:k<n) (w:World) :
  (Instr.index t (.agg (ints n f)) (.int .u8 (k:Int))).run P w=.ok (.int .i64 (f k)) w:=by
 cases hq:P.info? e with
 | none=>simp[hq] at hs
 | some i =>
  have h1:i.size=1:=by simpa [hq] using hs
  have h2:((k:Int)<(n:Int)):=by omega
  simp[Instr.index,asIntOf,Sem.run_bind,run_underlying hu,part,isAgg,run_underlying he,sizeOf,typeInfo,hq,h1,hk,ints_get f hk]
theorem wr_snoc (M:Om.Ma):∀(l:List UInt8) (at':Nat→Nat) (x:UInt8),Om.wr M at' (l++[x])=Om.wr M at' l++[ltr (Om.now M (Om.steps M at' (l.length+1)) (Vg.num x))]
 | [],_,_=>rfl
 | a :: l,at',x=>by
  show ltr _ :: Om.wr M (Om.step M at') (l++[x])=ltr _ :: (Om.wr M (Om.step M at') l++_)
  rw[wr_snoc M l (Om.step M at') x,Om.steps_step]
  rfl
theorem wr_take {M:Om.Ma} {t:List UInt8} {k:Nat} (hk:k<t.length) (at':Nat→Nat):Om.wr M at' (t.take (k+1))=Om.wr M at' (t.take k)++[ltr (Om.now M (Om.steps M at' (k+1)) (Vg.num (t.getD k 0)))]:=by
 rw[List.take_succ_eq_append_getElem hk,wr_snoc,List.length_take,Nat.min_eq_left (by omega),getD_some hk]
theorem nums_grown {W W':World} {v:Value} {n:Nat} {f:Nat→Int} {r:Option Nat} (h:NumsAt W v n f) (hg:W.grownBy W' r) (hne:∀b,v.ownBlock=some b→some b≠r):NumsAt W' v n f:=by
 obtain ⟨a,cap,rfl,h2,h3⟩:=h
 refine ⟨a,cap,rfl,h2,fun c hc=>?_⟩
 obtain ⟨b,o,rfl,hcell⟩:=h3 c hc
 exact ⟨b,o,rfl,hg.cell hcell (hne b rfl)⟩
structure WlAt (w W:World) (a b c:Value) (rf pl:Nat→Int) (gb:Nat) (t:ByteArray) (v8 v9:Value) (n:Nat) (at':Nat→Nat) (l:List UInt8):Prop where
 wt:WtAt w W a b c rf pl
 gb1:w.heap.size+1<gb
 cells:∀k (hk:k<t.size),W.cell? ⟨gb,k,none⟩=some (.int .u8 t[k].toNat)
 gb2:gb<W.heap.size
 nums:NumsAt W v8 n fun i=>(at' i:Nat)
 own:Kit.Owns W (gb+1) 5 v9 l
theorem own_byte {w w':World} {B:Nat} {v:Value} {l:List UInt8} (h:Kit.Owns w B 5 v l) (hb:Below w.heap.size w w'):Kit.Owns w' B 5 v l:=own_step h hb
set_option maxRecDepth 100000 in
set_option maxHeartbeats 4000000 in
theorem rwt_ok (M:Om.Ma) (hM:Om.Ok M) (vm:Value) (t:ByteArray) (ht:Ls t.data.toList) (hs:t.size≤65536) (w:World) (hm:MacAt w vm (gOf M)) (HW:Hid (∀W,Below w.heap.size w W→Calls Tryz.prog 33 #[vm] W fun e w'=>e=.returned (.int .i64 0)∧Below W.heap.size W w')) (HT:Hid (∀W,Calls Tryz.prog 42 #[.string t] W fun e w'=>e=.returned (.agg #[.int .i64 0,.int .i64 0])∧Below W.heap.size W w')):Calls Tryz.prog 89 #[vm,.string t] w fun e w'=>e=.returned (.tuple #[.string ⟨(Om.wr M M.st t.data.toList).toArray⟩,.agg #[.int .i64 0,.int .i64 0]])∧Below w.heap.size w w':=by
 obtain ⟨i0,hi0,hz0,hz1,hz2⟩:=x_info_parts v_info_byte
 have HST:=(show Hid (∀W va at',Om.In26 M at'→Below w.heap.size w W→NumsAt W va M.n (fun i=>(at' i:Nat))→Calls Tryz.prog 143 #[vm,va] W fun e w'=>∃v,e=.returned v∧NumsAt w' v M.n (fun i=>(Om.step M at' i:Nat))∧Below W.heap.size W w'∧∀b,v.ownBlock=some b→W.heap.size≤b) from fun W va at' h1 h2 h3=>rstep_any M hM vm va at' h1 W (hm.below h2) h3)
 have HNW:=(show Hid (∀W va at',Om.In26 M at'→Below w.heap.size w W→NumsAt W va M.n (fun i=>(at' i:Nat))→Calls Tryz.prog 144 #[vm,va] W fun e w'=>e=.returned (.agg (ints 26 (Pm.up (Om.now M at'))))∧Below W.heap.size W w') from fun W va at' h1 h2 h3=>rnow_any M hM vm va at' h1 W (hm.below h2) h3)
 have HIN:=(show Hid (∀k,Om.In26 M (Om.steps M M.st k)) from fun k=>Om.In26.steps (fun i hi=>hM.st i hi) k)
 have HNP:=(show Hid (∀k c,c<26→Om.now M (Om.steps M M.st k) c<26) from fun k c hc=>(Om.now_perm hM _).lt c hc)
 obtain ⟨a,b,c,rfl,hwh,hri,hst⟩:=hm
 have HSS:=(show Hid (NumsAt w c M.n fun i=>(M.st i:Nat)) from hst)
 have h0:=WtAt.new w a b c (Pm.up M.rf) (Pm.up M.pl)
 have hcv:=fun w=>Lib.run_convert_string_bytes (P:=Tryz.prog) w 9 87 5 t Tryz.underlying9 Tryz.underlying87 Tryz.underlying5
 clear hwh hri hst hM
 go_enter Tryz.func89,Tryz.ntmps89
 go_wp2_with (first | refine wpList_load_row rfl 29 _ rfl w.heap.size rfl 29 (mac a b c (Pm.up M.rf) (Pm.up M.pl)) (0,0) _ h0.load Tryz.underlying29 rfl (by rw[mac_size];exact v_info_mac) ?_)
 refine (HW.out _ h0.mg.below).mono ?_
 rintro e W1 ⟨rfl,hb⟩
 have h1:=h0.step hb
 clear hb h0 HW
 go_wp2_with fail
 refine (HT.out _).mono ?_
 rintro e W2 ⟨rfl,hb⟩
 have h2:=(h1.step hb).alloc (.cells #[.int .i64 0,.int .i64 0] 35)
 have hc2:=h2.mg.c2
 clear hb h1 HT
 go_upto_region 9 with fail
 obtain ⟨V,hV⟩:∃V,V=W2.alloc (.cells #[.int .i64 0,.int .i64 0] 35):=⟨_,rfl⟩
 rw[←hV] at h2 hc2 ⊢
 clear hV
 have hbB:Below V.heap.size V (Lib.bytesWorld V 5 t):=below_bytes V (Nat.le_refl _) 5 t
 have HC:∀k (hk:k<t.size),(Lib.bytesWorld V 5 t).cell? ⟨V.heap.size,k,none⟩=some (.int .u8 t[k].toNat):=fun k hk=>bytes_cell V 5 t k hk
 have hsz:=Lib.bytesWorld_size V 5 t
 have hl:=h2.res.lt
 have hg0:WlAt w (Lib.bytesWorld V 5 t) a b c (Pm.up M.rf) (Pm.up M.pl) V.heap.size t c (.slice none 0 0) M.n (Om.steps M M.st 0) (Om.wr M M.st (t.data.toList.take 0)):=⟨h2.step hbB,by omega,HC,by omega,HSS.out.below (h2.step hbB).mg.below,Kit.Owns.nil _ _ _⟩
 clear hsz HC hbB hl
 go_wp2_with fail
 generalize Lib.bytesWorld V 5 t=V2 at *
 obtain ⟨gb,hgb⟩:∃gb,gb=V.heap.size:=⟨_,rfl⟩
 rw[←hgb] at hg0 ⊢
 clear hgb h2 hc2 hcv
 go_loopw [29,8,9] (fun i x y W=>∃(k:Nat) (v8 v9:Value),k≤t.size∧i=.int .i64 (k:Nat)∧v8=x∧v9=y∧WlAt w W a b c (Pm.up M.rf) (Pm.up M.pl) gb t v8 v9 M.n (Om.steps M M.st k) (Om.wr M M.st (t.data.toList.take k))) (fun i _ _ _=>((t.size:Int)-intOf i).toNat)
 case atStart=>exact ⟨0,_,_,by omega,rfl,rfl,rfl,hg0⟩
 case round =>
  clear hg0
  obtain ⟨k,v8,v9,hk,rfl,rfl,rfl,hg⟩:=hrel
  by_cases hlt:k<t.size
  ·have hlt2:(k:Int)<(t.size:Int):=by omega
   have hcell:=hg.cells k hlt
   have hxl:=ht.at (getD_size hlt)
   have hnum:=num_lt hxl
   have hby:t[k]=t.data.toList.getD k 0:=(getD_byte t k hlt).symm
   rw[hby] at hcell
   have HWT:=(show Hid _ from wr_take (M:=M) (getD_size hlt) M.st)
   have HNB:=(show Hid _ from HNP.out (k+1) _ hnum)
   have HSTK:=(show Hid (Om.step M (Om.steps M M.st k)=Om.steps M M.st (k+1)) from rfl)
   have HI1:=(show Hid _ from HIN.out k)
   have HI2:=(show Hid _ from HIN.out (k+1))
   have HLL:Hid ((Om.wr M M.st (t.data.toList.take k)).length≤k):=by rw[Hid,Om.wr_length,List.length_take];omega
   generalize t.data.toList.getD k 0=x at *
   have hx1:(65:Int)≤x.toNat:=by omega
   have hx2:(x.toNat:Int)≤90:=by omega
   have hx3:(x.toNat:Int)-65=((Vg.num x:Nat):Int):=by unfold Vg.num;omega
   clear hby hxl
   go_wp2_with (first | refine wpList_load_row rfl 29 _ rfl w.heap.size rfl 29 (mac a b c (Pm.up M.rf) (Pm.up M.pl)) (0,0) _ hg.wt.load Tryz.underlying29 rfl (by rw[mac_size];exact v_info_mac) ?_)
   refine (HST.out _ v8 _ HI1.out hg.wt.mg.below hg.nums).mono ?_
   rintro e W3 ⟨v,rfl,hnums,hb,hfr⟩
   rw[HSTK.out] at hnums
   have hg2:WlAt w W3 a b c (Pm.up M.rf) (Pm.up M.pl) gb t v v9 M.n (Om.steps M M.st (k+1)) (Om.wr M M.st (t.data.toList.take k)):=⟨hg.wt.step hb,hg.gb1,fun j hj=>(hb.cell (p:=⟨gb,j,none⟩) hg.gb2).trans (hg.cells j hj),by have:=hb.size;have:=hg.gb2;omega,hnums,own_byte hg.own hb⟩
   have HFR:Hid (∀q,v.ownBlock=some q→some q≠v9.ownBlock):=fun q hq e=>by
    have h1:=hfr q hq
    have h2:=(World.ownsRow.lt hg.own q e.symm).2
    omega
   clear hb hg hnums hfr hcell
   go_wp2_with (first | refine wpList_load_row rfl 29 _ rfl w.heap.size rfl 29 (mac a b c (Pm.up M.rf) (Pm.up M.pl)) (0,0) _ hg2.wt.load Tryz.underlying29 rfl (by rw[mac_size];exact v_info_mac) ?_)
   refine (HNW.out _ v _ HI2.out hg2.wt.mg.below hg2.nums).mono ?_
   rintro e W4 ⟨rfl,hb⟩
   have hg3:WlAt w W4 a b c (Pm.up M.rf) (Pm.up M.pl) gb t v v9 M.n (Om.steps M M.st (k+1)) (Om.wr M M.st (t.data.toList.take k)):=⟨hg2.wt.step hb,hg2.gb1,fun j hj=>(hb.cell (p:=⟨gb,j,none⟩) hg2.gb2).trans (hg2.cells j hj),by have:=hb.size;have:=hg2.gb2;omega,hg2.nums.below hb,own_byte hg2.own hb⟩
   have hix:=run_index_u8 (P:=Tryz.prog) 27 3 26 Tryz.underlying27 Tryz.underlying3 info_int (Pm.up (Om.now M (Om.steps M M.st (k+1)))) (Vg.num x) hnum
   have HUP:Hid (Pm.up (Om.now M (Om.steps M M.st (k+1))) (Vg.num x)=((Om.now M (Om.steps M M.st (k+1)) (Vg.num x):Nat):Int)):=rfl
   rw[HUP.out] at hix
   have hlt4:=hg3.gb2
   clear hb hg2 HUP
   obtain ⟨z,hz⟩:∃z,z=Om.now M (Om.steps M M.st (k+1)) (Vg.num x):=⟨_,rfl⟩
   rw[←hz] at hix HNB HWT
   have hz26:=HNB.out
   have hzw:IntKind.u8.wrap (65+(z:Int))=((ltr z).toNat:Int):=by rw[ltr_toNat hz26];rw[show (65:Int)+(z:Int)=((65+z:Nat):Int) by omega];simp[IntKind.wrap,IntKind.bits,IntKind.signed];omega
   clear hz
   generalize Vg.num x=nx at *
   go_wp2_with (first | (at_builtin;refine wpList_append_own _ rfl _ _ 87 rfl (gb+1) 5 i0 (.int .u8 0) 1 1 Tryz.underlying87 hi0 hz0 hz1 hz2 rfl (by decide) _ _ _ rfl (World.ownsRow.alloc hg3.own _) ⟨W4.heap.size,0,none⟩ 1 1 [.int .u8 ((ltr z).toNat:Int)] rfl rfl (cell_one_new _ _ _) (fun u hu=>by simp at hu;subst hu;rfl) (by have:=HLL.out;unfold maxLen;omega) (by have:=HLL.out;omega) (by simp;omega) ?_;intro v5 w5 hown5 hgrow5 _))
   have HG4:WlAt w w5 a b c (Pm.up M.rf) (Pm.up M.pl) gb t v v5 M.n (Om.steps M M.st (k+1)) (Om.wr M M.st (t.data.toList.take (k+1))):=by
    have hq:=hg3.gb1
    have hal:=hg3.wt.alloc (.cells #[.int .u8 ((ltr z).toNat:Int)] 5)
    have hne:∀q,q≤gb→some q≠v9.ownBlock:=fun q hq e=>by have:=(World.ownsRow.lt hg3.own q e.symm).1;omega
    refine ⟨⟨⟨(hgrow5.block w.heap.size (by simp;omega) (hne _ (by omega))).trans hal.mg.row,hal.mg.below.grown hgrow5 (by simp;omega) (fun q hq=>by have:=(World.ownsRow.lt hg3.own q hq).1;omega)⟩,(hgrow5.block (w.heap.size+1) (by simp;omega) (hne _ (by omega))).trans hal.res⟩,hg3.gb1,fun j hj=>?_,?_,?_,?_⟩
    ·have h1:=hg3.cells j hj
     have h2:(W4.alloc (.cells #[.int .u8 ((ltr z).toNat:Int)] 5)).cell? ⟨gb,j,none⟩=some (.int .u8 t[j].toNat):=by rw[←h1];exact World.cell?_alloc_lt _ _ _ hg3.gb2
     exact hgrow5.cell h2 (hne gb (Nat.le_refl _))
    ·have:=hgrow5.size
     simp at this
     omega
    ·exact nums_grown (hg3.nums.alloc _) hgrow5 HFR.out
    ·rw[HWT.out]
     unfold Kit.Owns
     rw[←v_cells_byte,List.length_append]
     exact hown5
   clear hg3 hown5 hgrow5
   go_roundw
   case rel=>exact ⟨k+1,v,v5,by omega,by go_num,rfl,rfl,HG4⟩
   case measure=>simp[intOf];omega
  ·obtain rfl:k=t.size:=by omega
   have hnlt:¬(t.size:Int)<(t.size:Int):=by omega
   have hown:=hg.own
   rw[Pl.size_len,List.take_length] at hown
   have hst:=Kit.run_string_of_own (P:=Tryz.prog) wr 87 9 5 Tryz.underlying87 Tryz.underlying5 Tryz.underlying9 hown
   have c0:=hg.wt.res.cell (i:=0) rfl
   have c1:=hg.wt.res.cell (i:=1) rfl
   have f0:=hg.wt.res.frozen 0
   have f1:=hg.wt.res.frozen 1
   have hwt:=hg.wt
   clear hown hg
   go_wp2
   have q:=Kit.read_two (.int .i64 0) (.int .i64 0) c0 c1
   exact bodyPost_ret (v:=.tuple #[.string ⟨(Om.wr M M.st t.data.toList).toArray⟩,.agg #[.int .i64 0,.int .i64 0]]) (by simp[results,Tryz.results89,go_sem,q.1,q.2]) rfl ⟨rfl,hwt.done _ _⟩
def rwE (g:Gm) (t:List UInt8):Int:=if gE g≠0 then gE g else ckE t
def rwAt (g:Gm) (t:List UInt8):Int:=if gE g≠0 then 0 else ckAt t
end Go.Proofs.YtkohhdkkbaifoaaGreatDoor

/-
  The machine that a given one is.
-/
namespace Go.Proofs.YtkohhdkkbaifoaaGreatDoor
open Go.RowKit PK Vg

def maOf (g:Gm):Om.Ma:=⟨g.n,fun r c=>(g.wi r c).toNat,fun r=>(List.range (g.nl r)).map fun k=>(g.no r k).toNat,fun i=>(g.ri i).toNat,fun i=>(g.st i).toNat,fun c=>(g.rf c).toNat,fun c=>(g.pl c).toNat⟩
theorem perm_toNat {f:Nat→Int} (h:Pm.wrong f=0):Pm.IsPerm (fun c=>(f c).toNat)∧∀i,i<26→f i=(((f i).toNat:Nat):Int):=by
 obtain ⟨p,hp,e⟩:=(Pm.wrong_zero f).1 h
 have e2:∀i,i<26→(f i).toNat=p i:=fun i hi=>by rw[e i hi];rfl
 refine ⟨⟨fun i hi=>by show (f i).toNat<26;rw[e2 i hi];exact hp.lt i hi,fun i j hi hj h=>?_⟩,fun i hi=>by rw[e i hi];rfl⟩
 have h':(f i).toNat=(f j).toNat:=h
 rw[e2 i hi,e2 j hj] at h'
 exact hp.inj i j hi hj h'
theorem ok_maOf {g:Gm} (h:gE g=0):Om.Ok (maOf g)∧∀W v,MacAt W v g→MacAt W v (gOf (maOf g)):=by
 obtain ⟨⟨h1,h2⟩,h3,⟨h4,h5⟩,⟨h6,h7⟩,⟨h8,h9⟩,h10,h11⟩:=gE_zero h
 have hw:=whE_zero g g.n h3
 rw[ins_iff] at h5 h7
 rw[undo_iff] at h9 h11
 obtain ⟨hrf,erf⟩:=perm_toNat h8
 obtain ⟨hpl,epl⟩:=perm_toNat h10
 have hwi:∀r,r<g.n→Pm.IsPerm (fun c=>(g.wi r c).toNat)∧∀i,i<26→g.wi r i=(((g.wi r i).toNat:Nat):Int):=fun r hr=>perm_toNat (hw r hr).1
 have hno:∀r,r<g.n→∀k,k<g.nl r→0≤g.no r k∧g.no r k≤25:=fun r hr=>(ins_iff _ _).1 (hw r hr).2
 refine ⟨⟨h1,h2,fun i hi=>(hwi i hi).1,fun i hi k hk=>?_,fun i hi=>?_,fun i hi=>?_,hrf,fun c hc=>?_,fun c hc=>?_,hpl,fun c hc=>?_⟩,?_⟩
 ·obtain ⟨q,hq,rfl⟩:=List.mem_map.1 hk
  have:=hno i hi q (by simpa using hq)
  omega
 ·have:=h5 i (by rw[h4];exact hi);show (g.ri i).toNat<26;omega
 ·have:=h7 i (by rw[h6];exact hi);show (g.st i).toNat<26;omega
 ·have:=(h9 c hc).1
  show (g.rf (g.rf c).toNat).toNat=c
  omega
 ·have:=(h9 c hc).2 rfl
  have e:=erf c hc
  show (g.rf c).toNat≠c
  omega
 ·have:=(h11 c hc).1
  show (g.pl (g.pl c).toNat).toNat=c
  omega
 ·rintro W v ⟨a,b,c,e,k1,k2,k3⟩
  refine ⟨a,b,c,by rw[e,mac_ext erf epl];rfl,?_,?_,?_⟩
  ·obtain ⟨a',cap,R,q1,q2,q3,q4⟩:=k1
   refine ⟨a',cap,R,q1,q2,fun r hr=>?_,fun r hr=>?_⟩
   ·obtain ⟨b',o',e1,e2⟩:=q3 r hr
    rw[whl_ext (hwi r hr).2] at e2
    exact ⟨b',o',e1,e2⟩
   ·have:=q4 r hr
    show NumsAt W (R r) ((List.range (g.nl r)).map fun k=>(g.no r k).toNat).length _
    rw[List.length_map,List.length_range]
    refine nums_ext this fun k hk=>?_
    have h0:=hno r hr k hk
    show g.no r k=(((List.range (g.nl r)).map fun k=>(g.no r k).toNat).getD k 0:Nat)
    simp[List.getD_eq_getElem?_getD,hk]
    omega
  ·rw[h4] at k2
   exact nums_ext k2 fun i hi=>by
    have:=h5 i (by rw[h4];exact hi)
    show g.ri i=((g.ri i).toNat:Int)
    omega
  ·rw[h6] at k3
   exact nums_ext k3 fun i hi=>by
    have:=h7 i (by rw[h6];exact hi)
    show g.st i=((g.st i).toNat:Int)
    omega
def rwS (g:Gm) (t:List UInt8):List UInt8:=if rwE g t≠0 then [] else Om.wr (maOf g) (maOf g).st t
end Go.Proofs.YtkohhdkkbaifoaaGreatDoor

/-
  RotorUndone, for any Write that writes what the document's writes.
-/
namespace Go.Proofs.YtkohhdkkbaifoaaGreatDoor
open Go.RowKit PK Vg

section
variable {w W W':World} {a b c:Value} {rf pl:Nat→Int} {q:Nat} {x y:Value}
end
end Go.Proofs.YtkohhdkkbaifoaaGreatDoor

/-
  Contract of the law's plugged; a store into the midst of a machine.
-/
namespace Go.Proofs.YtkohhdkkbaifoaaGreatDoor
open Go.RowKit PK Vg

def setMany (c:Array Value):Nat→List Value→Array Value
 | _,[]=>c
 | o,v :: l=>setMany (c.setIfInBounds o v) (o+1) l
theorem row_setCells {T:TypeId} {g:Nat}:∀{l:List Value} {o:Nat} {w:World} {c:Array Value},RowAt w g T c→RowAt (w.setCells g o l) g T (setMany c o l)
 | [],_,_,_,h=>h
 | v :: l,o,_,_,h=>row_setCells (l:=l) (h.set o v)
theorem setMany_size:∀(l:List Value) (o:Nat) (c:Array Value),(setMany c o l).size=c.size
 | [],_,_=>rfl
 | v :: l,o,c=>by show (setMany (c.setIfInBounds o v) (o+1) l).size=_;rw[setMany_size];simp
theorem setMany_get:∀(l:List Value) (o:Nat) (c:Array Value) (i:Nat),o+l.length≤c.size→(setMany c o l)[i]? = if o≤i∧i<o+l.length then l[i-o]? else c[i]?
 | [],o,c,i,_=>by show c[i]? = _;rw[if_neg (by rintro ⟨h1,h2⟩;simp at h2;omega)]
 | v :: l,o,c,i,h=>by
  show (setMany (c.setIfInBounds o v) (o+1) l)[i]? = _
  have h':o+1+l.length≤c.size:=by simp at h;omega
  rw[setMany_get l (o+1) (c.setIfInBounds o v) i (by simpa using h')]
  by_cases e:i=o
  ·subst e
   rw[if_neg (by omega),if_pos ⟨by omega,by simp⟩,Nat.sub_self]
   have hi:i<c.size:=by simp at h;omega
   simp[hi]
  ·by_cases e2:o+1≤i∧i<o+1+l.length
   ·rw[if_pos e2,if_pos ⟨by omega,by simp;omega⟩]
    rw[show i-o=(i-(o+1))+1 by omega]
    simp
   ·rw[if_neg e2,if_neg (by simp;omega),Array.getElem?_setIfInBounds_ne (by omega)]
theorem below_setCells {B g:Nat} (hg:B≤g):∀{l:List Value} {o:Nat} {w W:World},Below B w W→Below B w (W.setCells g o l)
 | [],_,_,_,h=>h
 | v :: l,o,_,_,h=>below_setCells hg (l:=l) (h.setCell (p:=⟨g,o,none⟩) hg v)
theorem row_setCells_other {T:TypeId} {g q:Nat} (hne:q≠g):∀{l:List Value} {o:Nat} {w:World} {c:Array Value},RowAt w q T c→RowAt (w.setCells g o l) q T c
 | [],_,_,_,h=>h
 | v :: l,o,_,_,h=>row_setCells_other hne (l:=l) (h.setOther ⟨g,o,none⟩ v hne)
theorem there_row {w:World} {g:Nat} {T:TypeId} {c:Array Value} (h:RowAt w g T c) {o n:Nat} (hn:o+n≤c.size):w.there g o n:=fun j hj=>by
 refine ⟨?_,h.frozen _⟩
 rw[h.cell (i:=o+j) (v:=c[o+j]'(by omega)) (by simp)]
 rfl
end Go.Proofs.YtkohhdkkbaifoaaGreatDoor

/-
  Contract of rotor.New.
-/
namespace Go.Proofs.YtkohhdkkbaifoaaGreatDoor
open Go.RowKit PK Vg

def Mz (n:Nat) (rf pl:Nat→Nat):Om.Ma:=⟨n,fun _=>noz,fun _=>[],noz,noz,rf,pl⟩
set_option maxRecDepth 100000 in
theorem built_rot (n:Nat) (rf pl:Nat→Nat):Tryz.prog.built 191 [(1,.int .i64 (n:Nat)),(2,.agg (ints 26 (Pm.up rf))),(3,.agg (ints 26 (Pm.up pl)))]=some (rotA (Mz n rf pl) noz 0):=by kernel_rfl
theorem rot_zero (M:Om.Ma) (at':Nat→Nat):rotA (Mz M.n M.rf M.pl) noz 0=rotA M at' 0:=tab_ext fun i _=>by
 unfold rotC
 by_cases h1:i<320
 ·rw[if_pos h1,if_pos h1,if_neg (by omega),if_neg (by omega)]
 ·rw[if_neg h1,if_neg h1]
  rfl
theorem rot_lay (M:Om.Ma) (at':Nat→Nat) {k:Nat} (hk:k<4):setMany (rotA M at' k) (k*80) (wlA (M.wi k) (Pm.inv (M.wi k)) (fun c=>(M.no k).contains c) (M.ri k) (at' k)).toList=rotA M at' (k+1):=by
 have hl:(wlA (M.wi k) (Pm.inv (M.wi k)) (fun c=>(M.no k).contains c) (M.ri k) (at' k)).toList.length=80:=by rw[Array.length_toList,wlA_size]
 apply Array.ext_getElem?
 intro i
 rw[setMany_get _ _ _ _ (by rw[hl,rotA_size];omega),hl]
 by_cases h:k*80≤i∧i<k*80+80
 ·rw[if_pos h,Array.getElem?_toList]
  unfold wlA rotA
  rw[tab_get _ (by omega),tab_get _ (by omega)]
  unfold rotC
  rw[if_pos (by omega),show i / 80=k by omega,if_pos (by omega),show i % 80=i-k*80 by omega]
 ·rw[if_neg h]
  by_cases h2:i<373
  ·unfold rotA
   rw[tab_get _ h2,tab_get _ h2]
   unfold rotC
   by_cases h1:i<320
   ·rw[if_pos h1,if_pos h1]
    by_cases h3:i / 80<k
    ·rw[if_pos h3,if_pos (by omega)]
    ·rw[if_neg h3,if_neg (by omega)]
   ·rw[if_neg h1,if_neg h1]
  ·rw[Array.getElem?_eq_none (by rw[rotA_size];omega),Array.getElem?_eq_none (by rw[rotA_size];omega)]
structure NwAt (w W:World) (a b c:Value) (rf pl:Nat→Int) (q:Nat) (A:Array Value):Prop where
 mg:MgAt w W a b c rf pl
 rot:RowAt W q 191 A
 lt:w.heap.size<q
section
variable {w W W':World} {a b c:Value} {rf pl:Nat→Int} {q:Nat} {A:Array Value}
theorem NwAt.step (h:NwAt w W a b c rf pl q A) (hb:Below W.heap.size W W'):NwAt w W' a b c rf pl q A:=⟨h.mg.step hb,h.rot.below hb h.rot.lt,h.lt⟩
theorem NwAt.drew (h:NwAt w W a b c rf pl q A):NwAt w W.drew a b c rf pl q A:=⟨h.mg.drew,h.rot,h.lt⟩
theorem NwAt.alloc (h:NwAt w W a b c rf pl q A) (o:Obj):NwAt w (W.alloc o) a b c rf pl q A:=⟨h.mg.alloc o,h.rot.alloc o,h.lt⟩
theorem NwAt.other (h:NwAt w W a b c rf pl q A) (p:Nat) (hp:w.heap.size<p) (hne:q≠p) (l:Array Value):NwAt w (W.setRow p l) a b c rf pl q A:=⟨h.mg.setRow p hp l,h.rot.rowOther _ _ hne,h.lt⟩
theorem NwAt.lay (h:NwAt w W a b c rf pl q A) (o:Nat) (l:List Value):NwAt w (W.setCells q o l) a b c rf pl q (setMany A o l):=⟨⟨row_setCells_other (by have:=h.lt;omega) h.mg.row,below_setCells (by have:=h.lt;omega) h.mg.below⟩,row_setCells h.rot,h.lt⟩
end
theorem setMany_twice (A:Array Value) (o:Nat) (l:List Value) (h:o+l.length≤A.size):setMany (setMany A o l) o l=setMany A o l:=by
 apply Array.ext_getElem?
 intro i
 rw[setMany_get l o (setMany A o l) i (by rw[setMany_size];exact h)]
 by_cases e:o≤i∧i<o+l.length
 ·rw[if_pos e,setMany_get _ _ _ _ h,if_pos e]
 ·rw[if_neg e]
structure NsAt (w W:World) (a b c:Value) (rf pl:Nat→Int) (q p7:Nat) (wh:Array Value) (o:Nat) (l:List Value) (B:Array Value):Prop where
 nw:∃A,NwAt w W a b c rf pl q A∧o+l.length≤A.size∧setMany A o l=B
 p:RowAt W p7 97 wh
section
variable {w W W':World} {a b c:Value} {rf pl:Nat→Int} {q p7 o:Nat} {wh B:Array Value} {l:List Value}
theorem NsAt.mg (h:NsAt w W a b c rf pl q p7 wh o l B):MgAt w W a b c rf pl:=by obtain ⟨A,h1,_⟩:=h.nw;exact h1.mg
theorem NsAt.step (h:NsAt w W a b c rf pl q p7 wh o l B) (hb:Below W.heap.size W W'):NsAt w W' a b c rf pl q p7 wh o l B:=by
 obtain ⟨A,h1,h2⟩:=h.nw
 exact ⟨⟨A,h1.step hb,h2⟩,h.p.below hb h.p.lt⟩
theorem NsAt.there (h:NsAt w W a b c rf pl q p7 wh o l B):W.there q o l.length:=by
 obtain ⟨A,h1,h2,_⟩:=h.nw
 exact there_row h1.rot h2
theorem NsAt.lay (h:NsAt w W a b c rf pl q p7 wh o l B) (hne:p7≠q):NwAt w (W.setCells q o l) a b c rf pl q B∧NsAt w (W.setCells q o l) a b c rf pl q p7 wh o l B:=by
 obtain ⟨A,h1,h2,h3⟩:=h.nw
 have:=h1.lay o l
 rw[h3] at this
 exact ⟨this,⟨B,this,by rw[←h3,setMany_size];exact h2,by rw[←h3];exact setMany_twice A o l h2⟩,row_setCells_other hne h.p⟩
end
theorem new_bad (a b c:Value) (rf pl:Nat→Int) (E:Int) (hE:(E != 0)=true) (w:World) (HW:∀W,Below w.heap.size w W→Calls Tryz.prog 30 #[.agg (mac a b c rf pl)] W fun e w'=>e=.returned (.int .i64 E)∧Below W.heap.size W w'):Calls Tryz.prog 131 #[.agg (mac a b c rf pl)] w fun e w'=>e=.returned (.tuple #[.pointer none,.int .i64 E])∧Below w.heap.size w w':=by
 have h0:=MgAt.new w a b c rf pl
 have H:=(show Hid _ from HW)
 clear HW
 go_enter Tryz.func131,Tryz.ntmps131
 go_wp2_with (first | refine wpList_load_row rfl 29 _ rfl w.heap.size rfl 29 (mac a b c rf pl) (0,0) _ h0.row Tryz.underlying29 rfl (by rw[mac_size];exact v_info_mac) ?_)
 refine (H.out _ h0.below).mono ?_
 rintro e V ⟨rfl,hb⟩
 have h1:=h0.step hb
 have hbe:=h1.below
 clear hb h0 h1
 go_wp2
 go_ret2
 exact ⟨rfl,hbe⟩
set_option maxRecDepth 100000 in
set_option maxHeartbeats 4000000 in
theorem new_ok (M:Om.Ma) (hM:Om.Ok M) (vm:Value) (w:World) (hm:MacAt w vm (gOf M)) (HW:∀W,Below w.heap.size w W→Calls Tryz.prog 30 #[vm] W fun e w'=>e=.returned (.int .i64 0)∧Below W.heap.size W w'):Calls Tryz.prog 131 #[vm] w fun e w'=>∃q,e=.returned (.tuple #[.pointer (some ⟨q,0,none⟩),.int .i64 0])∧w.heap.size≤q∧RotAt w' q M M.st∧Below w.heap.size w w':=by
 obtain ⟨a,b,c,rfl,hw,hri,hst⟩:=hm
 have hn4:M.n≤4:=hM.most
 have HOK:=(show Hid _ from hM)
 clear hM
 obtain ⟨ad,cap,R,rfl,hmx,hr,hn⟩:=hw
 obtain ⟨ar,cr,rfl,hmr,hcr⟩:=hri
 obtain ⟨az,cz,rfl,hms,hcs⟩:=hst
 have HWH:=(show Hid (∀r,r<M.n→∃b o,ad=some ⟨b,o,none⟩∧w.rangeAt b (o+r*27) (whl (Pm.up (M.wi r)) (R r)).toList) from hr)
 have HNO:=(show Hid (∀r,r<M.n→NumsAt w (R r) (M.no r).length fun k=>((M.no r).getD k 0:Nat)) from hn)
 have HRI:=(show Hid (∀i,i<M.n→∃b o,ar=some ⟨b,o,none⟩∧w.cell? ⟨b,o+i,none⟩=some (.int .i64 (M.ri i:Nat))) from hcr)
 have HST:=(show Hid (∀i,i<M.n→∃b o,az=some ⟨b,o,none⟩∧w.cell? ⟨b,o+i,none⟩=some (.int .i64 (M.st i:Nat))) from hcs)
 have en:(gOf M).n=M.n:=rfl
 have er:(gOf M).rl=M.n:=rfl
 have es:(gOf M).sl=M.n:=rfl
 have ef:(gOf M).rf=Pm.up M.rf:=rfl
 have ep:(gOf M).pl=Pm.up M.pl:=rfl
 rw[en,er,es,ef,ep] at *
 clear hr hn hcr hcs hmx hmr hms
 have h0:=MgAt.new w (.slice ad M.n cap) (.slice ar M.n cr) (.slice az M.n cz) (Pm.up M.rf) (Pm.up M.pl)
 have H:=(show Hid _ from HW)
 clear HW
 go_enter Tryz.func131,Tryz.ntmps131
 go_wp2_with (first | refine wpList_load_row rfl 29 _ rfl w.heap.size rfl 29 (mac (.slice ad M.n cap) (.slice ar M.n cr) (.slice az M.n cz) (Pm.up M.rf) (Pm.up M.pl)) (0,0) _ h0.row Tryz.underlying29 rfl (by rw[mac_size];exact v_info_mac) ?_)
 refine (H.out _ h0.below).mono ?_
 rintro e V ⟨rfl,hb⟩
 have h1:=h0.step hb
 clear hb h0
 have hc0:=h1.c0
 have hmr:=mid_rf h1.row
 have hmp:=mid_pl h1.row
 go_upto_region 5 with (first | refine wpList_load_arr rfl 27 _ rfl w.heap.size 3 rfl (ints 26 (Pm.up M.rf)) _ hmr Tryz.underlying27 rfl (by rw[ints_size];exact info_perm) ?_ | refine wpList_load_arr rfl 27 _ rfl w.heap.size 29 rfl (ints 26 (Pm.up M.pl)) _ hmp Tryz.underlying27 rfl (by rw[ints_size];exact info_perm) ?_ | refine wpList_buildA rfl 191 [(1,.tmp 15),(2,.tmp 17),(3,.tmp 19)] rfl [(1,.int .i64 (M.n:Nat)),(2,.agg (ints 26 (Pm.up M.rf))),(3,.agg (ints 26 (Pm.up M.pl)))] rfl _ (built_rot M.n M.rf M.pl) ?_)
 have hnw:NwAt w (V.alloc (.cells (rotA (Mz M.n M.rf M.pl) noz 0) 191)) (.slice ad M.n cap) (.slice ar M.n cr) (.slice az M.n cz) (Pm.up M.rf) (Pm.up M.pl) V.heap.size (rotA M M.st 0):=⟨h1.alloc _,by rw[←rot_zero M M.st];exact RowAt.new V _ _,h1.lt⟩
 generalize V.alloc (.cells (rotA (Mz M.n M.rf M.pl) noz 0) 191)=U at *
 obtain ⟨q,hq⟩:∃q,q=V.heap.size:=⟨_,rfl⟩
 rw[←hq] at hnw ⊢
 clear hq h1 hc0 hmr hmp
 have hc0:=hnw.mg.c0
 go_wp2_with fail
 go_loopw [25] (fun i W=>∃k:Nat,k≤M.n∧i=.int .i64 (k:Nat)∧NwAt w W (.slice ad M.n cap) (.slice ar M.n cr) (.slice az M.n cz) (Pm.up M.rf) (Pm.up M.pl) q (rotA M M.st k)) (fun i _=>((M.n:Int)-intOf i).toNat)
 case atStart=>exact ⟨0,by omega,rfl,hnw⟩
 case round =>
  clear hnw hc0
  obtain ⟨k,hk,rfl,hg⟩:=hrel
  by_cases hlt:k<M.n
  ·have HLT:Hid (k<4):=(by omega:k<4)
   have HLN:Hid (k<M.n):=hlt
   have HLI:Hid (¬4≤(k:Int)):=(by omega:¬4≤(k:Int))
   obtain ⟨bw,ow,rfl,hrg⟩:=HWH.out k hlt
   obtain ⟨br,or',rfl,hrc⟩:=HRI.out k hlt
   obtain ⟨bz,oz,rfl,hsc⟩:=HST.out k hlt
   have hrg2:=rangeAt_below hrg hg.mg.below
   have hnk:=HNO.out k hlt
   have HONE:Hid ((R k).oneCell'=true):=by obtain ⟨a',c',e',_⟩:=hnk;rw[Hid,e'];rfl
   have HRC:=(show Hid (∀W,Below w.heap.size w W→W.cell? ⟨br,or'+k,none⟩=some (.int .i64 (M.ri k:Nat))) from fun W hb=>(hb.cell (p:=⟨br,or'+k,none⟩) (cell_block hrc)).trans hrc)
   have HSC:=(show Hid (∀W,Below w.heap.size w W→W.cell? ⟨bz,oz+k,none⟩=some (.int .i64 (M.st k:Nat))) from fun W hb=>(hb.cell (p:=⟨bz,oz+k,none⟩) (cell_block hsc)).trans hsc)
   obtain ⟨AW,hAW⟩:∃AW,AW=(wlA (M.wi k) (Pm.inv (M.wi k)) (fun c=>(M.no k).contains c) (M.ri k) (M.st k)):=⟨_,rfl⟩
   have hsz:AW.size=80:=by rw[hAW,wlA_size]
   have hone:AW.all (·.oneCell')=true:=by rw[hAW];exact wlA_one _ _ _ _ _
   have HSZ:=(show Hid _ from hsz)
   have HON:=(show Hid _ from hone)
   have HTU:=(show Hid (∀W,Below w.heap.size w W→Calls Tryz.prog 176 #[.agg (whl (Pm.up (M.wi k)) (R k)),.int .i64 (M.ri k:Nat),.int .i64 (M.st k:Nat)] W fun e w'=>e=.returned (.agg AW)∧Below W.heap.size W w') from fun W hb=>by rw[hAW];exact turning_any (M.wi k) (HOK.out.wi k hlt) (R k) (M.no k) (HOK.out.no k hlt) (M.ri k) (M.st k) W (hnk.below hb))
   have hly:=rot_lay M M.st HLT.out
   rw[←hAW] at hly
   have HLAY:=(show Hid _ from hly)
   clear hly hAW hsz hone
   have hz27:=o_zero v_zero_whl
   go_upto_region 8 with (first | refine wpList_load_arr rfl 97 _ rfl bw (ow+k*27) rfl (whl (Pm.up (M.wi k)) (R k)) _ hrg2 Tryz.underlying97 rfl (by rw[whl_size];exact v_info_whl) ?_ | refine wpList_store_row rfl 97 _ _ rfl wr.heap.size (whl (Pm.up (M.wi k)) (R k)) rfl rfl 97 _ (RowAt.new wr _ _) (by rw[whl_size];exact v_info_whl) (by simp only[whl_size]) (whl_one HONE.out) ?_)
   have hlq:=hg.rot.lt
   have hg2:=(hg.alloc (.cells (whl (fun _=>0) (.slice none 0 0)) 97)).other wr.heap.size hg.mg.lt (by omega) (whl (Pm.up (M.wi k)) (R k))
   have hr7:=(RowAt.new wr 97 (whl (fun _=>0) (.slice none 0 0))).row (whl (Pm.up (M.wi k)) (R k))
   generalize (wr.alloc (.cells (whl (fun _=>0) (.slice none 0 0)) 97)).setRow wr.heap.size (whl (Pm.up (M.wi k)) (R k))=X at *
   obtain ⟨p7,hp7⟩:∃p,p=wr.heap.size:=⟨_,rfl⟩
   have HNE:Hid (p7≠q):=(by omega:p7≠q)
   rw[←hp7] at hr7 ⊢
   have hns:NsAt w X.drew (.slice (some ⟨bw,ow,none⟩) M.n cap) (.slice (some ⟨br,or',none⟩) M.n cr) (.slice (some ⟨bz,oz,none⟩) M.n cz) (Pm.up M.rf) (Pm.up M.pl) q p7 (whl (Pm.up (M.wi k)) (R k)) (k*80) AW.toList (rotA M M.st (k+1)):=⟨⟨_,hg2.drew,by rw[Array.length_toList,HSZ.out,rotA_size];have:=HLT.out;omega,HLAY.out⟩,hr7⟩
   clear hp7 hrg hrg2 hnk hz27 HONE hg hrc hsc hlq
   refine wp_region_noPanic ?_
   refine wp_region_held_drew (S:=fun W=>NsAt w W (.slice (some ⟨bw,ow,none⟩) M.n cap) (.slice (some ⟨br,or',none⟩) M.n cr) (.slice (some ⟨bz,oz,none⟩) M.n cz) (Pm.up M.rf) (Pm.up M.pl) q p7 (whl (Pm.up (M.wi k)) (R k)) (k*80) AW.toList (rotA M M.st (k+1))) (by kernel_rfl) hns (fun hS=>?_)
   refine vtk 0 30 (.pointer (some ⟨q,0,none⟩)) rfl (fun W hW=>by clear hS hW;go_simp) hS ?_
   simp only[zsA,zsB,zsC]
   refine vtk 1 31 (.int .i64 (k:Nat)) rfl (fun W hW=>by clear hS hW;go_simp) hS ?_
   simp only[zsA,zsB,zsC]
   refine vtk 2 32 (.agg (whl (Pm.up (M.wi k)) (R k))) rfl (fun W hW=>by have u:=run_loadVar_row (P:=Tryz.prog) W p7 97 97 (whl (Pm.up (M.wi k)) (R k)) (0,0) _ hW.p Tryz.underlying97 rfl (by rw[whl_size];exact v_info_whl);clear hS hW;simp[execOp,Act.eval,Instr.loadAt,Instr.sureAddr,u]) hS ?_
   simp only[zsA,zsB,zsC]
   refine vtk 3 33 (.pointer (some ⟨w.heap.size,1,none⟩)) rfl (fun W hW=>by clear hS hW;go_simp) hS ?_
   simp only[zsA,zsB,zsC]
   refine vtk 4 34 (.slice (some ⟨br,or',none⟩) M.n cr) rfl (fun W hW=>by have u:=hW.mg.c1;clear hS hW;go_simp) hS ?_
   simp only[zsA,zsB,zsC]
   refine vtk 5 35 (.int .i64 (k:Nat)) rfl (fun W hW=>by clear hS hW;go_simp) hS ?_
   simp only[zsA,zsB,zsC]
   refine vtk 6 36 (.pointer (some ⟨br,or'+k,none⟩)) rfl (fun W hW=>by clear hS hW;go_simp) hS ?_
   simp only[zsA,zsB,zsC]
   refine vtk 7 37 (.int .i64 (M.ri k:Nat)) rfl (fun W hW=>by have u:=HRC.out W hW.mg.below;clear hS hW;go_simp) hS ?_
   simp only[zsA,zsB,zsC]
   refine vtk 8 38 (.pointer (some ⟨w.heap.size,2,none⟩)) rfl (fun W hW=>by clear hS hW;go_simp) hS ?_
   simp only[zsA,zsB,zsC]
   refine vtk 9 39 (.slice (some ⟨bz,oz,none⟩) M.n cz) rfl (fun W hW=>by have u:=hW.mg.c2;clear hS hW;go_simp) hS ?_
   simp only[zsA,zsB,zsC]
   refine vtk 10 40 (.int .i64 (k:Nat)) rfl (fun W hW=>by clear hS hW;go_simp) hS ?_
   simp only[zsA,zsB,zsC]
   refine vtk 11 41 (.pointer (some ⟨bz,oz+k,none⟩)) rfl (fun W hW=>by clear hS hW;go_simp) hS ?_
   simp only[zsA,zsB,zsC]
   refine vtk 12 42 (.int .i64 (M.st k:Nat)) rfl (fun W hW=>by have u:=HSC.out W hW.mg.below;clear hS hW;go_simp) hS ?_
   simp only[zsA,zsB,zsC]
   refine vtk 14 44 (.pointer (some ⟨q,0,none⟩)) rfl (fun W hW=>by clear hS hW;go_simp) hS ?_
   simp only[zsA,zsB,zsC]
   refine vtk 15 45 (.pointer (some ⟨q,0,none⟩)) rfl (fun W hW=>by clear hS hW;go_simp) hS ?_
   simp only[zsA,zsB,zsC]
   refine rd1 13 rfl (fun K hK=>?_)
   go_simp
   refine Calls.mono (HTU.out _ hS.mg.below) ?_
   rintro e Y ⟨rfl,hb8⟩
   refine hK.out _ _ (hS.step hb8) (fun hS1=>?_)
   clear hK hS K
   have hS:=hS1
   clear hS1
   refine vtk 16 46 (.pointer (some ⟨q,k*80,none⟩)) rfl (fun W hW=>by have u:¬4≤(k:Int):=HLI.out;clear hS hW;go_simp) hS ?_
   simp only[zsA,zsB,zsC]
   refine rd1 17 rfl (fun K hK=>?_)
   have hth:=hS.there
   rw[Array.length_toList] at hth
   have hlay:=hS.lay HNE.out
   refine wp_store_mid 188 _ _ rfl q (k*80) AW rfl rfl hth (by rw[HSZ.out];exact v_info_wl) HON.out ?_
   refine hK.out _ _ hlay.2 (fun hS1=>?_)
   have hgn:=hlay.1
   clear hK hS K hth hlay
   have hS:=hS1
   clear hS1
   refine wpAnyH_done (by kernel_rfl) ?_ _
   refine NoPanic.normal ?_
   clear hS
   go_wp2_with fail
   go_roundw
   case rel=>exact ⟨k+1,HLN.out,by go_num,hgn⟩
   case measure=>have:=HLN.out;simp[intOf];omega
  ·obtain rfl:k=M.n:=by omega
   have hnl:¬((M.n:Nat):Int)<((M.n:Nat):Int):=by omega
   have hrt:=hg.rot
   have hle:=hg.lt
   have hbe:=hg.mg.below
   clear hg
   go_wp2
   go_ret2
   exact ⟨q,rfl,Nat.le_of_lt hle,⟨hrt,HOK.out,HOK.out.st⟩,hbe⟩
theorem new_any (vm:Value) (g:Gm) (w:World) (hm:MacAt w vm g):Calls Tryz.prog 131 #[vm] w fun e w'=>(gE g≠0∧e=.returned (.tuple #[.pointer none,.int .i64 (gE g)])∧Below w.heap.size w w')∨(gE g=0∧∃q,e=.returned (.tuple #[.pointer (some ⟨q,0,none⟩),.int .i64 0])∧w.heap.size≤q∧RotAt w' q (maOf g) (maOf g).st∧Below w.heap.size w w'):=by
 have HW:=fun W (hb:Below w.heap.size w W)=>gw_any vm g W (hm.below hb)
 by_cases hg:gE g=0
 ·obtain ⟨hM,hmm⟩:=ok_maOf hg
  rw[hg] at HW
  refine (new_ok _ hM vm w (hmm w vm hm) HW).mono ?_
  intro e w' h
  exact .inr ⟨hg,h⟩
 ·obtain ⟨a,b,c,rfl,_⟩:=hm
  refine (new_bad a b c g.rf g.pl _ (by simpa using hg) w HW).mono ?_
  rintro e w' ⟨rfl,hb⟩
  exact .inl ⟨hg,rfl,hb⟩
end Go.Proofs.YtkohhdkkbaifoaaGreatDoor
