/-
  Several texts, joined: ScF, ScG, ScH, ScL.
-/
import Derived.Test.YtkohhdkkbaifoaaGreatDoorJn13
import Derived.Test.YtkohhdkkbaifoaaGreatDoorJn15
import Derived.Test.YtkohhdkkbaifoaaGreatDoorJn18
import Derived.Test.YtkohhdkkbaifoaaGreatDoorJn17
import Derived.Test.YtkohhdkkbaifoaaGreatDoorJn1
import Derived.Shelf.Strconv.Clone
import Derived.Shelf.Lay
import Derived.Ground.NamesProg
import Derived.Lib.Agree
/-
  What a step makes of a text, and what it is undone to; that texts stay right.
-/
namespace Go.Proofs.YtkohhdkkbaifoaaGreatDoor
open Go.RowKit PK Vg Sm

noncomputable def one (s:Sp) (t:List UInt8):List UInt8 :=
 if s.k=1 then mvL s.n.toNat t else if s.k=2 then writeL s.n.toNat s.key.data.toList t else if s.k=3 then putL t.length (ordF s t.length) t
 else if s.k=4 then putL t.length (ordF s t.length) t else if s.k=5 then encL s.r s.Z t t.length else Om.wr (maOf s.g) (maOf s.g).st t
noncomputable def und (s:Sp) (t:List UInt8):List UInt8 :=
 if s.k=1 then mvL (26-s.n.toNat) t else if s.k=2 then readL s.n.toNat s.key.data.toList t else if s.k=3 then putL t.length (backF (ordF s t.length) t.length) t
 else if s.k=4 then putL t.length (backF (ordF s t.length) t.length) t else if s.k=5 then encL s.r (invL s.r s.Z) t t.length else Om.wr (maOf s.g) (maOf s.g).st t
def oneE (s:Sp) (n:Nat):Int:=if s.k=5∧n % s.r≠0 then 8 else 0
def undE (s:Sp) (n:Nat):Int:=if s.k=5∧n % s.r≠0 then 8 else if s.k=5 then (recOf (detL s.r s.Z)).2 else 0
section
variable {s:Sp} {t:List UInt8}
theorem one_1 (k:s.k=1):one s t=mvL s.n.toNat t:=by unfold one;rw[if_pos k]
theorem one_2 (k:s.k=2):one s t=writeL s.n.toNat s.key.data.toList t:=by unfold one;rw[if_neg (by omega),if_pos k]
theorem one_34 (k:s.k=3∨s.k=4):one s t=putL t.length (ordF s t.length) t:=by
 unfold one;rw[if_neg (by omega),if_neg (by omega)]
 rcases k with k | k
 ·rw[if_pos k]
 ·rw[if_neg (by omega),if_pos k]
theorem one_5 (k:s.k=5):one s t=encL s.r s.Z t t.length:=by unfold one;rw[if_neg (by omega),if_neg (by omega),if_neg (by omega),if_neg (by omega),if_pos k]
theorem one_6 (k:s.k=6):one s t=Om.wr (maOf s.g) (maOf s.g).st t:=by unfold one;rw[if_neg (by omega),if_neg (by omega),if_neg (by omega),if_neg (by omega),if_neg (by omega)]
theorem und_1 (k:s.k=1):und s t=mvL (26-s.n.toNat) t:=by unfold und;rw[if_pos k]
theorem und_2 (k:s.k=2):und s t=readL s.n.toNat s.key.data.toList t:=by unfold und;rw[if_neg (by omega),if_pos k]
theorem und_34 (k:s.k=3∨s.k=4):und s t=putL t.length (backF (ordF s t.length) t.length) t:=by
 unfold und;rw[if_neg (by omega),if_neg (by omega)]
 rcases k with k | k
 ·rw[if_pos k]
 ·rw[if_neg (by omega),if_pos k]
theorem und_5 (k:s.k=5):und s t=encL s.r (invL s.r s.Z) t t.length:=by unfold und;rw[if_neg (by omega),if_neg (by omega),if_neg (by omega),if_neg (by omega),if_pos k]
theorem und_6 (k:s.k=6):und s t=Om.wr (maOf s.g) (maOf s.g).st t:=by unfold und;rw[if_neg (by omega),if_neg (by omega),if_neg (by omega),if_neg (by omega),if_neg (by omega)]
theorem oneE_n (k:s.k≠5) (n:Nat):oneE s n=0:=by unfold oneE;rw[if_neg (fun h=>k h.1)]
theorem undE_n (k:s.k≠5) (n:Nat):undE s n=0:=by unfold undE;rw[if_neg (fun h=>k h.1),if_neg k]
end
theorem lets_ls {l:List UInt8} (h:Ls l):Pl.Lets l:=fun c hc=>by
 have:=h c hc
 simp[Pl.isL]
 omega
theorem ls_lets {l:List UInt8} (h:Pl.Lets l):Ls l:=fun c hc=>by
 have:=h c hc
 simp[Pl.isL] at this
 omega
theorem ck_ls {l:List UInt8} (h:Ls l) (hn:l.length≤65536):ckE l=0:=by
 unfold ckE
 rw[if_neg (by omega)]
 exact (chk_none l (Pl.chk_ok l (lets_ls h))).1
theorem ls_ck {l:List UInt8} (h:ckE l=0):Ls l∧l.length≤65536:=⟨ls_lets (ck_at h).2.2,(ck_at h).2.1⟩
theorem Calls_ex {P:Program} {f:FuncId} {a:Array Value} {w:World} {R:Ending→World→Prop} (h:Calls P f a w R):∃e w',R e w':=by
 obtain ⟨e,w',fr,hr,_⟩:=h []
 exact ⟨e,w',hr⟩
theorem ord_ex (w:World) {s:Sp} (hs:stE s=0) (hk:s.k=3∨s.k=4) {m:Nat} (hm:m≤65536):OrdP s m (ordF s m):=by
 rcases hk with hk | hk
 ·obtain ⟨h1,h64⟩:=st_rail hs hk
  obtain ⟨e,w',G,d,_,_,_,_,ho,hs⟩:=Calls_ex (rail_ok m s.n.toNat hm (by omega) (by omega) w)
  exact (ordF_of (d:=d) ⟨ho,.inl ⟨hk,hs⟩⟩).1
 ·obtain ⟨h1,h2,h3⟩:=st_col hs hk
  have hl:=Pl.size_len s.key
  obtain ⟨e,w',G,d,t,_,_,_,_,ho,hs,ht⟩:=Calls_ex (col_ok m s.key hm h1 (ck_at h1).1 (by omega) (by omega) w)
  exact (ordF_of (d:=d) ⟨ho,.inr ⟨hk,t,ht,hs⟩⟩).1
theorem ord_good {n:Nat} {d:Nat→Int} (h:Order n d) (hn:n≤65536):GoodO n d:=⟨hn,h.lt,h.inj⟩
theorem mvL_ls (b:Nat) (l:List UInt8):Ls (mvL b l):=fun c hc=>by
 obtain ⟨x,hx,rfl⟩:=List.mem_map.1 hc
 unfold mvC
 rw[ltr_toNat (Nat.mod_lt _ (by omega))]
 have:=Nat.mod_lt (Vg.num x+b) (show 0<26 by omega)
 omega
theorem putL_ls {n:Nat} {f:Nat→Int} {l:List UInt8} (hf:∀i,i<n→0≤f i∧f i<n) (h:Ls l) (hn:n=l.length):Ls (putL n f l):=fun c hc=>by
 obtain ⟨i,hi,rfl⟩:=List.mem_map.1 hc
 have hi':i<n:=by simpa using hi
 have:=hf i hi'
 rw[List.getD_eq_getElem?_getD,List.getElem?_eq_getElem (by omega)]
 exact h _ (List.getElem_mem _)
theorem enc_ls (n:Nat) (Z:Nat→Nat→Int) (full:List UInt8) (m:Nat):Ls (encL n Z full m):=fun c hc=>by
 obtain ⟨i,hi,rfl⟩:=List.mem_map.1 hc
 have:=encN_bound n Z full i
 rw[UInt8.toNat_ofNat']
 omega
theorem full_selfW (n:Nat) (l:List UInt8) (h:l.length % n=0):fullL n l=l:=by
 unfold fullL
 rw[h,Nat.sub_zero,Nat.mod_self]
 simp
section
variable (w:World) {s:Sp} {t:List UInt8} (hs:stE s=0) (ht:ckE t=0)
include w hs ht
theorem one_right:ckE (one s t)=0∧(one s t).length=t.length:=by
 obtain ⟨hl,hn⟩:=ls_ck ht
 rcases st_kinds hs with k | k | k | k | k | k
 ·rw[one_1 k];exact ⟨ck_ls (mvL_ls _ _) (by rw[mvL_length];exact hn),mvL_length _ _⟩
 ·rw[one_2 k];exact ⟨ck_ls (writeL_ls _ _ _) (by rw[writeL_length];exact hn),writeL_length _ _ _⟩
 ·rw[one_34 (.inl k)];exact ⟨ck_ls (putL_ls (ord_ex w hs (.inl k) hn).1.lt hl rfl) (by rw[putL_length];exact hn),putL_length _ _ _⟩
 ·rw[one_34 (.inr k)];exact ⟨ck_ls (putL_ls (ord_ex w hs (.inr k) hn).1.lt hl rfl) (by rw[putL_length];exact hn),putL_length _ _ _⟩
 ·rw[one_5 k];exact ⟨ck_ls (enc_ls _ _ _ _) (by rw[encL_length];exact hn),encL_length _ _ _ _⟩
 ·rw[one_6 k];exact ⟨ck_ls (Om.wr_ls (ok_maOf (st_rotor hs k)).1 _ hl) (by rw[Om.wr_length];exact hn),Om.wr_length _ _ _⟩
theorem und_right:ckE (und s t)=0∧(und s t).length=t.length:=by
 obtain ⟨hl,hn⟩:=ls_ck ht
 rcases st_kinds hs with k | k | k | k | k | k
 ·rw[und_1 k];exact ⟨ck_ls (mvL_ls _ _) (by rw[mvL_length];exact hn),mvL_length _ _⟩
 ·rw[und_2 k];exact ⟨ck_ls (readL_ls _ _ _) (by rw[readL_length];exact hn),readL_length _ _ _⟩
 ·rw[und_34 (.inl k)];exact ⟨ck_ls (putL_ls (GoodO.back (ord_good (ord_ex w hs (.inl k) hn).1 hn)).1.lt hl rfl) (by rw[putL_length];exact hn),putL_length _ _ _⟩
 ·rw[und_34 (.inr k)];exact ⟨ck_ls (putL_ls (GoodO.back (ord_good (ord_ex w hs (.inr k) hn).1 hn)).1.lt hl rfl) (by rw[putL_length];exact hn),putL_length _ _ _⟩
 ·rw[und_5 k];exact ⟨ck_ls (enc_ls _ _ _ _) (by rw[encL_length];exact hn),encL_length _ _ _ _⟩
 ·rw[und_6 k];exact ⟨ck_ls (Om.wr_ls (ok_maOf (st_rotor hs k)).1 _ hl) (by rw[Om.wr_length];exact hn),Om.wr_length _ _ _⟩
end
end Go.Proofs.YtkohhdkkbaifoaaGreatDoor

/-
  Contracts of script.done and undone: a right step with a right text.
-/
namespace Go.Proofs.YtkohhdkkbaifoaaGreatDoor
open Go.RowKit PK Vg Sm

theorem tl_size (t:ByteArray):t.data.toList.length=t.size:=(Pl.size_len t).symm
set_option maxRecDepth 100000 in
set_option maxHeartbeats 2000000 in
theorem done_any (v:Value) (s:Sp) (A:Int) (t:ByteArray) (w:World) (hv:SqAt w v s) (hs:stE s=0) (ht:ckE t.data.toList=0) :
  Calls Tryz.prog 39 #[v,.int .i64 A,.string t] w fun e w'=>(oneE s t.size=0→e=.returned (.string ⟨(one s t.data.toList).toArray⟩))∧(oneE s t.size≠0→e=.panicked [flt (oneE s t.size) A])∧Below w.heap.size w w':=by
 obtain ⟨hat,hn0,hlets⟩:=ck_at ht
 have hlen:=tl_size t
 have hn:t.size≤65536:=by omega
 have hvv:=hv
 obtain ⟨mv,a,b,c,rfl,hm,hw,hri,hst⟩:=hv
 have hr0:=RowAt.new w 31 (spA s.k s.n s.key mv a b c s.g.rf s.g.pl)
 have hbe:Below w.heap.size w (w.alloc (.cells (spA s.k s.n s.key mv a b c s.g.rf s.g.pl) 31)):=(Below.refl _ w).alloc (Nat.le_refl _) _
 have c0:=hr0.cell (spA_0 s.k s.n s.key mv a b c s.g.rf s.g.pl)
 have c1:=hr0.cell (spA_1 s.k s.n s.key mv a b c s.g.rf s.g.pl)
 have c2:=hr0.cell (spA_2 s.k s.n s.key mv a b c s.g.rf s.g.pl)
 have c3:=hr0.cell (spA_3 s.k s.n s.key mv a b c s.g.rf s.g.pl)
 have hmid:(w.alloc (.cells (spA s.k s.n s.key mv a b c s.g.rf s.g.pl) 31)).rangeAt w.heap.size 4 (mac a b c s.g.rf s.g.pl).toList:=row_mid hr0 4 _ (fun i v hv=>by rw[spA_mac];exact hv)
 have HM:Hid (MatAt (w.alloc (.cells (spA s.k s.n s.key mv a b c s.g.rf s.g.pl) 31)) mv s.r s.L s.Z):=hm.below hbe
 have HG:Hid (MacAt (w.alloc (.cells (spA s.k s.n s.key mv a b c s.g.rf s.g.pl) 31)) (.agg (mac a b c s.g.rf s.g.pl)) s.g):=⟨a,b,c,rfl,hw.below hbe,hri.below hbe,hst.below hbe⟩
 have HSQ:Hid _:=hvv.below hbe
 have HSZ:Hid ((spA s.k s.n s.key mv a b c s.g.rf s.g.pl).size=59):=spA_size _ _ _ _ _ _ _ _ _
 obtain ⟨am,capm,R,rfl,_⟩:=hm
 have HB:Hid _:=hbe
 generalize spA s.k s.n s.key (.slice am s.r capm) a b c s.g.rf s.g.pl=CS at *
 generalize hmc:mac a b c s.g.rf s.g.pl=MC at *
 have HMS:Hid (MC.size=55):=by rw[Hid,←hmc];exact mac_size _ _ _ _ _
 have HR0:Hid _:=hr0
 have HLEN:Hid (t.data.toList.length=t.size):=hlen
 clear hmc hw hri hst hbe hvv hr0 hlen
 rcases st_kinds hs with k | k | k | k | k | k
 ·obtain ⟨h0,h25⟩:=st_move hs k
  obtain ⟨n,hnn⟩:∃n:Nat,s.n=n:=⟨s.n.toNat,by omega⟩
  have HE:Hid (oneE s t.size=0):=oneE_n (by omega) _
  have HV:Hid (one s t.data.toList=mvL (n) t.data.toList):=by rw[Hid,one_1 k,hnn];rfl
  have HO:Hid _:=moved_any t (n) (by omega) hn hlets (w.alloc (.cells CS 31))
  generalize oneE s t.size=E at *
  generalize one s t.data.toList=T at *
  rw[k] at c0
  rw[hnn] at c1
  have hn25:(n:Int)≤25:=by omega
  clear k hnn h0 h25 hs ht hat hn0 hlets hmid c2 c3
  go_enter Tryz.func39,Tryz.ntmps39
  go_wp2_with fail
  refine Calls.mono HO.out ?_
  rintro e V ⟨rfl,hb⟩
  go_wp2
  go_ret
  exact ⟨fun _=>by rw[HV.out];rfl,fun h=>absurd HE.out h,HB.out.trans (hb.mono HB.out.size)⟩
 ·obtain ⟨⟨h1,h4⟩,hck,hk1,hk2⟩:=st_tab hs k
  have HE:Hid (oneE s t.size=0):=oneE_n (by omega) _
  have hlk:lkE s.n s.key.data.toList t.data.toList=0:=by unfold lkE;rw[if_neg (by omega),if_neg (fun h=>h hck),if_neg (by omega)];exact ht
  have HV:Hid (one s t.data.toList=wrS s.n s.key.data.toList t.data.toList):=by rw[Hid,one_2 k];unfold wrS;rw[if_pos hlk]
  have HO:Hid _:=vwrite_any s.n s.key t (w.alloc (.cells CS 31))
  generalize lkE s.n s.key.data.toList t.data.toList=e1 at *
  generalize lkAt s.n s.key.data.toList t.data.toList=e2 at *
  generalize wrS s.n s.key.data.toList t.data.toList=T2 at *
  generalize oneE s t.size=E at *
  generalize one s t.data.toList=T at *
  rw[k] at c0
  clear k hck hk1 hk2 h1 h4 hs ht hat hn0 hlets hmid c3 hlk
  go_enter Tryz.func39,Tryz.ntmps39
  go_wp2_with fail
  refine Calls.mono HO.out ?_
  rintro e V ⟨rfl,hb⟩
  go_wp2
  go_ret
  exact ⟨fun _=>by rw[HV.out];rfl,fun h=>absurd HE.out h,HB.out.trans (hb.mono HB.out.size)⟩
 ·have HE:Hid (oneE s t.size=0):=oneE_n (by omega) _
  have HV:Hid (one s t.data.toList=putL t.size (ordF s t.size) t.data.toList):=by rw[Hid,one_34 (.inl k),HLEN.out]
  have HO:Hid _:=ord_any _ s t.size (w.alloc (.cells CS 31)) HSQ.out hs (.inl k) hn
  have HCK:Hid (ckE t.data.toList=0):=ht
  have HRO:=HR0.out
  generalize oneE s t.size=E at *
  generalize one s t.data.toList=T at *
  rw[k] at c0
  clear k hs ht hat hn0 hlets hmid c1 c2 c3
  go_enter Tryz.func39,Tryz.ntmps39
  go_wp2_with (first | refine wpList_load_row rfl 31 _ rfl w.heap.size rfl 31 CS (0,0) _ HRO Tryz.underlying31 rfl (by rw[HSZ.out];exact s_info) ?_)
  refine Calls.mono HO.out ?_
  rintro e V ⟨x,d,rfl,hx,hd,hb⟩
  have HY:Hid _:=ywrite_any x t.size d t V hx
  have hfit:fitE t.size d t.data.toList=0:=by
   unfold fitE
   rw[(ordE_zero _ _).2 (ord_good hd.1 hn),if_neg (fun h=>h rfl),HCK.out,if_neg (fun h=>h rfl),if_neg (fun h=>h HLEN.out.symm)]
  have HV2:Hid (T=putL t.size d t.data.toList):=by
   rw[Hid,HV.out]
   have hu:=(ordF_of hd).2
   exact putL_congr _ (fun i hi=>(hu i hi).symm)
  rw[hfit] at HY
  simp only[if_true] at HY
  obtain ⟨xa,xc,rfl,_⟩:=hx
  have HB2:Hid (Below w.heap.size w V):=HB.out.trans (hb.mono HB.out.size)
  clear hd hb hfit HRO
  go_wp2_with fail
  refine Calls.mono HY.out ?_
  rintro e V2 ⟨rfl,hb2⟩
  go_wp2
  go_ret
  exact ⟨fun _=>by rw[HV2.out];rfl,fun h=>absurd HE.out h,HB2.out.trans (hb2.mono HB2.out.size)⟩
 ·have HE:Hid (oneE s t.size=0):=oneE_n (by omega) _
  have HV:Hid (one s t.data.toList=putL t.size (ordF s t.size) t.data.toList):=by rw[Hid,one_34 (.inr k),HLEN.out]
  have HO:Hid _:=ord_any _ s t.size (w.alloc (.cells CS 31)) HSQ.out hs (.inr k) hn
  have HCK:Hid (ckE t.data.toList=0):=ht
  have HRO:=HR0.out
  generalize oneE s t.size=E at *
  generalize one s t.data.toList=T at *
  rw[k] at c0
  clear k hs ht hat hn0 hlets hmid c1 c2 c3
  go_enter Tryz.func39,Tryz.ntmps39
  go_wp2_with (first | refine wpList_load_row rfl 31 _ rfl w.heap.size rfl 31 CS (0,0) _ HRO Tryz.underlying31 rfl (by rw[HSZ.out];exact s_info) ?_)
  refine Calls.mono HO.out ?_
  rintro e V ⟨x,d,rfl,hx,hd,hb⟩
  have HY:Hid _:=ywrite_any x t.size d t V hx
  have hfit:fitE t.size d t.data.toList=0:=by
   unfold fitE
   rw[(ordE_zero _ _).2 (ord_good hd.1 hn),if_neg (fun h=>h rfl),HCK.out,if_neg (fun h=>h rfl),if_neg (fun h=>h HLEN.out.symm)]
  have HV2:Hid (T=putL t.size d t.data.toList):=by
   rw[Hid,HV.out]
   have hu:=(ordF_of hd).2
   exact putL_congr _ (fun i hi=>(hu i hi).symm)
  rw[hfit] at HY
  simp only[if_true] at HY
  obtain ⟨xa,xc,rfl,_⟩:=hx
  have HB2:Hid (Below w.heap.size w V):=HB.out.trans (hb.mono HB.out.size)
  clear hd hb hfit HRO
  go_wp2_with fail
  refine Calls.mono HY.out ?_
  rintro e V2 ⟨rfl,hb2⟩
  go_wp2
  go_ret
  exact ⟨fun _=>by rw[HV2.out];rfl,fun h=>absurd HE.out h,HB2.out.trans (hb2.mono HB2.out.size)⟩
 ·obtain ⟨hg,hL⟩:=(matErr_zero s.r s.L s.Z).1 (st_hill hs k)
  have hr1:=hg.pos
  have hr4:=hg.le
  by_cases hmod:t.size % s.r=0
  ·have hfull:fullL s.r t.data.toList=t.data.toList:=full_selfW _ _ (by rw[HLEN.out];exact hmod)
   have HCP:Hid _:=cp_ok am s.r capm A t (w.alloc (.cells CS 31)) hr1 hr4 hn hmod
   have HE:Hid (oneE s t.size=0):=by rw[Hid];unfold oneE;rw[if_neg (fun h=>h.2 hmod)]
   have HV:Hid (one s t.data.toList=encL s.r s.Z t.data.toList t.data.toList.length):=one_5 k
   have HW:Hid _:=hwr_ok _ s.r s.L s.Z hg hL t hn ht hat hlets (by rw[hfull,HLEN.out];exact hn) (w.alloc (.cells CS 31)) HM.out
   rw[hfull,←HV.out] at HW
   generalize oneE s t.size=E at *
   generalize one s t.data.toList=T at *
   rw[k] at c0
   clear k hs ht hat hn0 hlets hmid c1 c2 hfull hg hL
   go_enter Tryz.func39,Tryz.ntmps39
   go_wp2_with fail
   refine Calls.mono HCP.out ?_
   rintro e V ⟨rfl,rfl⟩
   go_wp2_with fail
   refine Calls.mono HW.out ?_
   rintro e V ⟨rfl,hb⟩
   go_wp2
   go_ret
   exact ⟨fun _=>rfl,fun h=>absurd HE.out h,HB.out.trans (hb.mono HB.out.size)⟩
  ·have HE:Hid (oneE s t.size=8):=by rw[Hid];unfold oneE;rw[if_pos ⟨k,hmod⟩]
   have HCP:Hid _:=cp_bad am s.r capm A t (w.alloc (.cells CS 31)) hr1 hr4 hn hmod
   generalize oneE s t.size=E at *
   generalize one s t.data.toList=T at *
   rw[k] at c0
   clear k hs ht hat hn0 hlets hmid c1 c2 hg hL
   go_enter Tryz.func39,Tryz.ntmps39
   go_wp2_with fail
   refine Calls.mono HCP.out ?_
   rintro e V ⟨rfl,rfl⟩
   refine ⟨rfl,fun h=>?_,fun _=>by rw[HE.out],HB.out⟩
   rw[HE.out] at h
   cases h
 ·have hg:=st_rotor hs k
  have HE:Hid (oneE s t.size=0):=oneE_n (by omega) _
  have hrw:rwE s.g t.data.toList=0:=by unfold rwE;rw[if_neg (fun h=>h hg)];exact ht
  have HV:Hid (one s t.data.toList=rwS s.g t.data.toList):=by rw[Hid,one_6 k];unfold rwS;rw[if_neg (fun h=>h hrw)]
  have HO:Hid _:=write8_any _ s.g t (w.alloc (.cells CS 31)) HG.out
  generalize rwE s.g t.data.toList=e1 at *
  generalize rwAt s.g t.data.toList=e2 at *
  generalize rwS s.g t.data.toList=T2 at *
  generalize oneE s t.size=E at *
  generalize one s t.data.toList=T at *
  rw[k] at c0
  clear k hg hs ht hat hn0 hlets c1 c2 c3 hrw
  go_enter Tryz.func39,Tryz.ntmps39
  go_wp2_with (first | refine wpList_load_arr rfl 29 _ rfl w.heap.size 4 rfl MC _ hmid Tryz.underlying29 rfl (by rw[HMS.out];exact s_info_mac) ?_)
  refine Calls.mono HO.out ?_
  rintro e V ⟨rfl,hb⟩
  go_wp2
  go_ret
  exact ⟨fun _=>by rw[HV.out];rfl,fun h=>absurd HE.out h,HB.out.trans (hb.mono HB.out.size)⟩
end Go.Proofs.YtkohhdkkbaifoaaGreatDoor

/-
  Contract of script.undone: a right step with a right text.
-/
namespace Go.Proofs.YtkohhdkkbaifoaaGreatDoor
open Go.RowKit PK Vg Sm

set_option maxRecDepth 100000 in
set_option maxHeartbeats 2000000 in
theorem undone_any (v:Value) (s:Sp) (A:Int) (t:ByteArray) (w:World) (hv:SqAt w v s) (hs:stE s=0) (ht:ckE t.data.toList=0) :
  Calls Tryz.prog 46 #[v,.int .i64 A,.string t] w fun e w'=>(undE s t.size=0→e=.returned (.string ⟨(und s t.data.toList).toArray⟩))∧(undE s t.size≠0→e=.panicked [flt (undE s t.size) A])∧Below w.heap.size w w':=by
 obtain ⟨hat,hn0,hlets⟩:=ck_at ht
 have hlen:=tl_size t
 have hn:t.size≤65536:=by omega
 have hvv:=hv
 obtain ⟨mv,a,b,c,rfl,hm,hw,hri,hst⟩:=hv
 have hr0:=RowAt.new w 31 (spA s.k s.n s.key mv a b c s.g.rf s.g.pl)
 have hbe:Below w.heap.size w (w.alloc (.cells (spA s.k s.n s.key mv a b c s.g.rf s.g.pl) 31)):=(Below.refl _ w).alloc (Nat.le_refl _) _
 have c0:=hr0.cell (spA_0 s.k s.n s.key mv a b c s.g.rf s.g.pl)
 have c1:=hr0.cell (spA_1 s.k s.n s.key mv a b c s.g.rf s.g.pl)
 have c2:=hr0.cell (spA_2 s.k s.n s.key mv a b c s.g.rf s.g.pl)
 have c3:=hr0.cell (spA_3 s.k s.n s.key mv a b c s.g.rf s.g.pl)
 have hmid:(w.alloc (.cells (spA s.k s.n s.key mv a b c s.g.rf s.g.pl) 31)).rangeAt w.heap.size 4 (mac a b c s.g.rf s.g.pl).toList:=row_mid hr0 4 _ (fun i v hv=>by rw[spA_mac];exact hv)
 have HM:Hid (MatAt (w.alloc (.cells (spA s.k s.n s.key mv a b c s.g.rf s.g.pl) 31)) mv s.r s.L s.Z):=hm.below hbe
 have HG:Hid (MacAt (w.alloc (.cells (spA s.k s.n s.key mv a b c s.g.rf s.g.pl) 31)) (.agg (mac a b c s.g.rf s.g.pl)) s.g):=⟨a,b,c,rfl,hw.below hbe,hri.below hbe,hst.below hbe⟩
 have HSQ:Hid _:=hvv.below hbe
 have HSZ:Hid ((spA s.k s.n s.key mv a b c s.g.rf s.g.pl).size=59):=spA_size _ _ _ _ _ _ _ _ _
 obtain ⟨am,capm,R,rfl,_⟩:=hm
 have HB:Hid _:=hbe
 generalize spA s.k s.n s.key (.slice am s.r capm) a b c s.g.rf s.g.pl=CS at *
 generalize hmc:mac a b c s.g.rf s.g.pl=MC at *
 have HMS:Hid (MC.size=55):=by rw[Hid,←hmc];exact mac_size _ _ _ _ _
 have HR0:Hid _:=hr0
 have HLEN:Hid (t.data.toList.length=t.size):=hlen
 clear hmc hw hri hst hbe hvv hr0 hlen
 rcases st_kinds hs with k | k | k | k | k | k
 ·obtain ⟨h0,h25⟩:=st_move hs k
  obtain ⟨n,hnn⟩:∃n:Nat,s.n=n:=⟨s.n.toNat,by omega⟩
  have HE:Hid (undE s t.size=0):=undE_n (by omega) _
  have HV:Hid (und s t.data.toList=mvL (26-n) t.data.toList):=by rw[Hid,und_1 k,hnn];rfl
  have HO:Hid _:=moved_any t (26-n) (by omega) hn hlets (w.alloc (.cells CS 31))
  generalize undE s t.size=E at *
  generalize und s t.data.toList=T at *
  rw[k] at c0
  rw[hnn] at c1
  have hsub:((26-n:Nat):Int)=26-(n:Int):=by omega
  rw[hsub] at HO
  have hn25:(n:Int)≤25:=by omega
  clear k hnn h0 h25 hs ht hat hn0 hlets hmid c2 c3
  go_enter Tryz.func46,Tryz.ntmps46
  go_wp2_with fail
  refine Calls.mono HO.out ?_
  rintro e V ⟨rfl,hb⟩
  go_wp2
  go_ret
  exact ⟨fun _=>by rw[HV.out];rfl,fun h=>absurd HE.out h,HB.out.trans (hb.mono HB.out.size)⟩
 ·obtain ⟨⟨h1,h4⟩,hck,hk1,hk2⟩:=st_tab hs k
  have HE:Hid (undE s t.size=0):=undE_n (by omega) _
  have hlk:lkE s.n s.key.data.toList t.data.toList=0:=by unfold lkE;rw[if_neg (by omega),if_neg (fun h=>h hck),if_neg (by omega)];exact ht
  have HV:Hid (und s t.data.toList=rdS s.n s.key.data.toList t.data.toList):=by rw[Hid,und_2 k];unfold rdS;rw[if_pos hlk]
  have HO:Hid _:=vread_any s.n s.key t (w.alloc (.cells CS 31))
  generalize lkE s.n s.key.data.toList t.data.toList=e1 at *
  generalize lkAt s.n s.key.data.toList t.data.toList=e2 at *
  generalize rdS s.n s.key.data.toList t.data.toList=T2 at *
  generalize undE s t.size=E at *
  generalize und s t.data.toList=T at *
  rw[k] at c0
  clear k hck hk1 hk2 h1 h4 hs ht hat hn0 hlets hmid c3 hlk
  go_enter Tryz.func46,Tryz.ntmps46
  go_wp2_with fail
  refine Calls.mono HO.out ?_
  rintro e V ⟨rfl,hb⟩
  go_wp2
  go_ret
  exact ⟨fun _=>by rw[HV.out];rfl,fun h=>absurd HE.out h,HB.out.trans (hb.mono HB.out.size)⟩
 ·have HE:Hid (undE s t.size=0):=undE_n (by omega) _
  have HV:Hid (und s t.data.toList=putL t.size (backF (ordF s t.size) t.size) t.data.toList):=by rw[Hid,und_34 (.inl k),HLEN.out]
  have HO:Hid _:=ord_any _ s t.size (w.alloc (.cells CS 31)) HSQ.out hs (.inl k) hn
  have HCK:Hid (ckE t.data.toList=0):=ht
  have HRO:=HR0.out
  generalize undE s t.size=E at *
  generalize und s t.data.toList=T at *
  rw[k] at c0
  clear k hs ht hat hn0 hlets hmid c1 c2 c3
  go_enter Tryz.func46,Tryz.ntmps46
  go_wp2_with (first | refine wpList_load_row rfl 31 _ rfl w.heap.size rfl 31 CS (0,0) _ HRO Tryz.underlying31 rfl (by rw[HSZ.out];exact s_info) ?_)
  refine Calls.mono HO.out ?_
  rintro e V ⟨x,d,rfl,hx,hd,hb⟩
  have HY:Hid _:=yread_any x t.size d t V hx
  have hfit:fitE t.size d t.data.toList=0:=by
   unfold fitE
   rw[(ordE_zero _ _).2 (ord_good hd.1 hn),if_neg (fun h=>h rfl),HCK.out,if_neg (fun h=>h rfl),if_neg (fun h=>h HLEN.out.symm)]
  have HV2:Hid (T=putL t.size (backF d t.size) t.data.toList):=by
   rw[Hid,HV.out]
   have hu:=(ordF_of hd).2
   rw[backF_congr t.size hu]
  rw[hfit] at HY
  simp only[if_true] at HY
  obtain ⟨xa,xc,rfl,_⟩:=hx
  have HB2:Hid (Below w.heap.size w V):=HB.out.trans (hb.mono HB.out.size)
  clear hd hb hfit HRO
  go_wp2_with fail
  refine Calls.mono HY.out ?_
  rintro e V2 ⟨rfl,hb2⟩
  go_wp2
  go_ret
  exact ⟨fun _=>by rw[HV2.out];rfl,fun h=>absurd HE.out h,HB2.out.trans (hb2.mono HB2.out.size)⟩
 ·have HE:Hid (undE s t.size=0):=undE_n (by omega) _
  have HV:Hid (und s t.data.toList=putL t.size (backF (ordF s t.size) t.size) t.data.toList):=by rw[Hid,und_34 (.inr k),HLEN.out]
  have HO:Hid _:=ord_any _ s t.size (w.alloc (.cells CS 31)) HSQ.out hs (.inr k) hn
  have HCK:Hid (ckE t.data.toList=0):=ht
  have HRO:=HR0.out
  generalize undE s t.size=E at *
  generalize und s t.data.toList=T at *
  rw[k] at c0
  clear k hs ht hat hn0 hlets hmid c1 c2 c3
  go_enter Tryz.func46,Tryz.ntmps46
  go_wp2_with (first | refine wpList_load_row rfl 31 _ rfl w.heap.size rfl 31 CS (0,0) _ HRO Tryz.underlying31 rfl (by rw[HSZ.out];exact s_info) ?_)
  refine Calls.mono HO.out ?_
  rintro e V ⟨x,d,rfl,hx,hd,hb⟩
  have HY:Hid _:=yread_any x t.size d t V hx
  have hfit:fitE t.size d t.data.toList=0:=by
   unfold fitE
   rw[(ordE_zero _ _).2 (ord_good hd.1 hn),if_neg (fun h=>h rfl),HCK.out,if_neg (fun h=>h rfl),if_neg (fun h=>h HLEN.out.symm)]
  have HV2:Hid (T=putL t.size (backF d t.size) t.data.toList):=by
   rw[Hid,HV.out]
   have hu:=(ordF_of hd).2
   rw[backF_congr t.size hu]
  rw[hfit] at HY
  simp only[if_true] at HY
  obtain ⟨xa,xc,rfl,_⟩:=hx
  have HB2:Hid (Below w.heap.size w V):=HB.out.trans (hb.mono HB.out.size)
  clear hd hb hfit HRO
  go_wp2_with fail
  refine Calls.mono HY.out ?_
  rintro e V2 ⟨rfl,hb2⟩
  go_wp2
  go_ret
  exact ⟨fun _=>by rw[HV2.out];rfl,fun h=>absurd HE.out h,HB2.out.trans (hb2.mono HB2.out.size)⟩
 ·obtain ⟨hg,hL⟩:=(matErr_zero s.r s.L s.Z).1 (st_hill hs k)
  have hr1:=hg.pos
  have hr4:=hg.le
  by_cases hmod:t.size % s.r=0
  ·have hfull:fullL s.r t.data.toList=t.data.toList:=full_selfW _ _ (by rw[HLEN.out];exact hmod)
   have HCP:Hid _:=cp_ok am s.r capm A t (w.alloc (.cells CS 31)) hr1 hr4 hn hmod
   have HUE:Hid (undE s t.size=(recOf (detL s.r s.Z)).2):=by rw[Hid];unfold undE;rw[if_neg (fun h=>h.2 hmod),if_pos k]
   have HV:Hid (und s t.data.toList=encL s.r (invL s.r s.Z) t.data.toList t.data.toList.length):=und_5 k
   rcases recOf_cases (detL s.r s.Z) with hrc | hrc
   ·have HE:Hid (undE s t.size=0):=by rw[Hid,HUE.out,hrc]
    have HIN:Hid _:=hinv_ok _ s.r s.L s.Z hg hL hrc (w.alloc (.cells CS 31)) HM.out
    have HGI:Hid (GoodM s.r (invL s.r s.Z)):=good_inv hr1 hr4 s.Z
    have HCK:Hid (ckE t.data.toList=0∧ckAt t.data.toList=0∧Pl.Lets t.data.toList):=⟨ht,hat,hlets⟩
    have HFU:Hid _:=hfull
    generalize undE s t.size=E at *
    generalize und s t.data.toList=T at *
    rw[k] at c0
    clear k hs ht hat hn0 hlets hmid c1 c2 hfull hg hL hrc
    go_enter Tryz.func46,Tryz.ntmps46
    go_wp2_with fail
    refine Calls.mono HCP.out ?_
    rintro e V ⟨rfl,rfl⟩
    go_wp2_with fail
    refine Calls.mono HIN.out ?_
    rintro e V ⟨x,rfl,hx,hb⟩
    have HW:Hid _:=hwr_ok x s.r (fun _=>s.r) (invL s.r s.Z) HGI.out (fun _ _=>rfl) t hn HCK.out.1 HCK.out.2.1 HCK.out.2.2 (by rw[HFU.out,HLEN.out];exact hn) V hx
    rw[HFU.out,←HV.out] at HW
    have HP:Hid _:=pass_ok A V
    obtain ⟨xa,xc,xr,rfl,_⟩:=hx
    have HB2:Hid (Below w.heap.size w V):=HB.out.trans (hb.mono HB.out.size)
    clear hb
    go_wp2_with fail
    refine Calls.mono HP.out ?_
    rintro e V3 ⟨rfl,rfl⟩
    go_wp2_with fail
    refine Calls.mono HW.out ?_
    rintro e V2 ⟨rfl,hb2⟩
    go_wp2
    go_ret
    exact ⟨fun _=>rfl,fun h=>absurd HE.out h,HB2.out.trans (hb2.mono HB2.out.size)⟩
   ·have HE:Hid (undE s t.size=6):=by rw[Hid,HUE.out,hrc]
    have HIN:Hid _:=hinv_none _ s.r s.L s.Z hg hL hrc (w.alloc (.cells CS 31)) HM.out
    generalize undE s t.size=E at *
    generalize und s t.data.toList=T at *
    rw[k] at c0
    clear k hs ht hat hn0 hlets hmid c1 c2 hfull hg hL hrc
    go_enter Tryz.func46,Tryz.ntmps46
    go_wp2_with fail
    refine Calls.mono HCP.out ?_
    rintro e V ⟨rfl,rfl⟩
    go_wp2_with fail
    refine Calls.mono HIN.out ?_
    rintro e V ⟨rfl,hb⟩
    have HP:Hid _:=pass_bad 6 A rfl V
    go_wp2_with fail
    refine Calls.mono HP.out ?_
    rintro e V3 ⟨rfl,rfl⟩
    refine ⟨rfl,fun h=>?_,fun _=>by rw[HE.out],HB.out.trans (hb.mono HB.out.size)⟩
    rw[HE.out] at h
    cases h
  ·have HE:Hid (undE s t.size=8):=by rw[Hid];unfold undE;rw[if_pos ⟨k,hmod⟩]
   have HCP:Hid _:=cp_bad am s.r capm A t (w.alloc (.cells CS 31)) hr1 hr4 hn hmod
   generalize undE s t.size=E at *
   generalize und s t.data.toList=T at *
   rw[k] at c0
   clear k hs ht hat hn0 hlets hmid c1 c2 hg hL
   go_enter Tryz.func46,Tryz.ntmps46
   go_wp2_with fail
   refine Calls.mono HCP.out ?_
   rintro e V ⟨rfl,rfl⟩
   refine ⟨rfl,fun h=>?_,fun _=>by rw[HE.out],HB.out⟩
   rw[HE.out] at h
   cases h
 ·have hg:=st_rotor hs k
  have HE:Hid (undE s t.size=0):=undE_n (by omega) _
  have hrw:rwE s.g t.data.toList=0:=by unfold rwE;rw[if_neg (fun h=>h hg)];exact ht
  have HV:Hid (und s t.data.toList=rwS s.g t.data.toList):=by rw[Hid,und_6 k];unfold rwS;rw[if_neg (fun h=>h hrw)]
  have HO:Hid _:=write8_any _ s.g t (w.alloc (.cells CS 31)) HG.out
  generalize rwE s.g t.data.toList=e1 at *
  generalize rwAt s.g t.data.toList=e2 at *
  generalize rwS s.g t.data.toList=T2 at *
  generalize undE s t.size=E at *
  generalize und s t.data.toList=T at *
  rw[k] at c0
  clear k hg hs ht hat hn0 hlets c1 c2 c3 hrw
  go_enter Tryz.func46,Tryz.ntmps46
  go_wp2_with (first | refine wpList_load_arr rfl 29 _ rfl w.heap.size 4 rfl MC _ hmid Tryz.underlying29 rfl (by rw[HMS.out];exact s_info_mac) ?_)
  refine Calls.mono HO.out ?_
  rintro e V ⟨rfl,hb⟩
  go_wp2
  go_ret
  exact ⟨fun _=>by rw[HV.out];rfl,fun h=>absurd HE.out h,HB.out.trans (hb.mono HB.out.size)⟩
end Go.Proofs.YtkohhdkkbaifoaaGreatDoor

/-
  strings.Clone, out of the shelf.
-/
namespace Go.Proofs.YtkohhdkkbaifoaaGreatDoor
open Go.Shelf Go.RowKit

shelf_lay LaysM.n316 Nm 316 at Tryz as Tryz.laysClone
theorem fClone:Tryz.laysClone_ren.f 316=80:=by kernel_rfl
theorem clone0_any (s:ByteArray) (hs:s.size≤65536) (w:World):Calls Tryz.prog 80 #[.string s] w fun e w'=>e=.returned (.string s)∧Below w.heap.size w w':=by
 have h:=Any.stringslite_Clone Tryz.laysClone s w (by omega)
 rw[fClone] at h
 exact h
set_option maxRecDepth 100000 in
theorem clone_any (s:ByteArray) (hs:s.size≤65536) (w:World):Calls Tryz.prog 40 #[.string s] w fun e w'=>e=.returned (.string s)∧Below w.heap.size w w':=by
 have HC:Hid _:=clone0_any s hs w
 go_enter Tryz.func40,Tryz.ntmps40
 go_wp2_with fail
 refine Calls.mono HC.out ?_
 rintro e V ⟨rfl,hb⟩
 go_wp2
 go_ret
 exact ⟨rfl,hb⟩
end Go.Proofs.YtkohhdkkbaifoaaGreatDoor
