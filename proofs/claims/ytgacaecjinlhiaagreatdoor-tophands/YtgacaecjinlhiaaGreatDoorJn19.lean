import Derived.Shelf.Strconv.Clone
import Derived.Test.YtgacaecjinlhiaaGreatDoorJn18
namespace Go.Proofs.YtgacaecjinlhiaaGreatDoor
section
open Go.RowKit PK Vg
theorem iK.grown {w W W':World} {a b c:Value} {rf pl:Nat→Int} (h:iK w W a b c rf pl) {r:Option Nat} (hg:W.grownBy W' r) (hr:∀k,r=some k→w.heap.size+1<k):iK w W' a b c rf pl:=by
 have h1:=h.mg.row.lt
 have h2:=h.res.lt
 have hne:∀k,k≤w.heap.size+1→some k≠r:=fun k hk e=>by have:=hr k e.symm;omega
 refine ⟨⟨(hg.block _ h1 (hne _ (by omega))).trans h.mg.row,?_⟩,(hg.block _ h2 (hne _ (by omega))).trans h.res⟩
 exact h.mg.below.grown hg (by omega) (fun k hk=>by have:=hr k hk;omega)
set_option maxRecDepth 100000 in
set_option maxHeartbeats 2000000 in
theorem J3 (a b c:Value) (rf pl:Nat→Int) (t:ByteArray) (E:Int) (hE:(E != 0)=true) (w:World) (HW:Hid (∀W,Below w.heap.size w W→Calls Tryz.prog 58 #[.agg (mac a b c rf pl)] W fun e w'=>e=.returned (.tuple #[.pointer none,.int .i64 E])∧Below W.heap.size W w')):Calls Tryz.prog 50 #[.agg (mac a b c rf pl),.string t] w fun e w'=>e=.returned (.tuple #[.string ByteArray.empty,.agg #[.int .i64 E,.int .i64 0]])∧Below w.heap.size w w':=by
 have h0:=iK.new w a b c rf pl
 go_enter Tryz.func50,Tryz.ntmps50
 go_wp2_with (first | refine wpList_load_row rfl 27 _ rfl w.heap.size rfl 27 (mac a b c rf pl) (0,0) _ h0.load Tryz.underlying27 rfl (by rw[aE];exact aF) ?_)
 refine (HW.out _ h0.mg.below).mono ?_
 rintro e W1 ⟨rfl,hb⟩
 have h1:=h0.step hb
 have c0:=h1.res.cell (i:=0) rfl
 have c1:=h1.res.cell (i:=1) rfl
 have f0:=h1.res.frozen 0
 have f1:=h1.res.frozen 1
 clear hb h0 HW
 go_wp2
 have q:=Kit.qp (.int .i64 E) (.int .i64 0) c0 c1
 exact bodyPost_ret (v:=.tuple #[.string ByteArray.empty,.agg #[.int .i64 E,.int .i64 0]]) (by simp[results,Tryz.results50,go_sem,q.1,q.2];rfl) rfl ⟨rfl,h1.done _ _⟩
set_option maxRecDepth 100000 in
set_option maxHeartbeats 2000000 in
theorem GI (a b c:Value) (rf pl:Nat→Int) (t:ByteArray) (E A:Int) (hE:(E != 0)=true) (w:World) (HW:Hid (∀W,Below w.heap.size w W→Calls Tryz.prog 58 #[.agg (mac a b c rf pl)] W fun e w'=>∃q,e=.returned (.tuple #[.pointer (some ⟨q,0,none⟩),.int .i64 0])∧Below W.heap.size W w')) (HT:Hid (∀W,Calls Tryz.prog 25 #[.string t] W fun e w'=>e=.returned (.agg #[.int .i64 E,.int .i64 A])∧Below W.heap.size W w')):Calls Tryz.prog 50 #[.agg (mac a b c rf pl),.string t] w fun e w'=>e=.returned (.tuple #[.string ByteArray.empty,.agg #[.int .i64 E,.int .i64 A]])∧Below w.heap.size w w':=by
 have h0:=iK.new w a b c rf pl
 go_enter Tryz.func50,Tryz.ntmps50
 go_wp2_with (first | refine wpList_load_row rfl 27 _ rfl w.heap.size rfl 27 (mac a b c rf pl) (0,0) _ h0.load Tryz.underlying27 rfl (by rw[aE];exact aF) ?_)
 refine (HW.out _ h0.mg.below).mono ?_
 rintro e W1 ⟨q,rfl,hb⟩
 have h1:=h0.step hb
 clear hb h0 HW
 go_wp2_with fail
 refine (HT.out _).mono ?_
 rintro e W2 ⟨rfl,hb⟩
 have h2:=(h1.step hb).alloc (.cells #[.int .i64 E,.int .i64 A] 37)
 have c0:=h2.res.cell (i:=0) rfl
 have c1:=h2.res.cell (i:=1) rfl
 have f0:=h2.res.frozen 0
 have f1:=h2.res.frozen 1
 clear hb h1 HT
 go_wp2_with fail
 go_region
 all_goals (try go_wp2)
 have q:=Kit.qp (.int .i64 E) (.int .i64 A) c0 c1
 exact bodyPost_ret (v:=.tuple #[.string ByteArray.empty,.agg #[.int .i64 E,.int .i64 A]]) (by simp[results,Tryz.results50,go_sem,q.1,q.2];rfl) rfl ⟨rfl,(h2.done _ _).drew⟩
structure sX (w W:World) (a b c:Value) (rf pl:Nat→Int) (q:Nat) (M:Om.Ma) (at':Nat→Nat) (B:Nat) (v9:Value) (l:List UInt8):Prop where
 wt:iK w W a b c rf pl
 rot:bn W q M at'
 q1:w.heap.size+1<q
 q2:q<B
 own:Kit.Dp W B 5 v9 l
 sz:B≤W.heap.size
section
variable {w W W':World} {a b c:Value} {rf pl:Nat→Int} {q:Nat} {M:Om.Ma} {at' at2:Nat→Nat} {B:Nat} {v9:Value} {l:List UInt8}
theorem sX.step (h:sX w W a b c rf pl q M at' B v9 l) (hb:Below W.heap.size W W'):sX w W' a b c rf pl q M at' B v9 l:=⟨h.wt.step hb,h.rot.below hb,h.q1,h.q2,Ek h.own hb,Nat.le_trans h.sz hb.size⟩
theorem sX.II (h:sX w W a b c rf pl q M at' B v9 l) (hr:bn W' q M at2) (hg:W.grownBy W' (some q)):sX w W' a b c rf pl q M at2 B v9 l:=by
 refine ⟨h.wt.grown hg (fun k hk=>by cases hk;exact h.q1),hr,h.q1,h.q2,World.ownsRow.kept h.own hg ?_,Nat.le_trans h.sz hg.size⟩
 cases hv:v9.ownBlock with
 | none=>exact .inl rfl
 | some k =>
  refine .inr (fun e=>?_)
  have h1:=(World.ownsRow.lt h.own k hv).1
  have h2:=h.q2
  cases e
  omega
end
set_option maxRecDepth 100000 in
set_option maxHeartbeats 4000000 in
theorem KZ (M:Om.Ma) (hM:Om.Ok M) (a b c:Value) (rf pl:Nat→Int) (t:ByteArray) (ht:Ls t.data.toList) (hs:t.size≤65536) (w:World) (HW:Hid (∀W,Below w.heap.size w W→Calls Tryz.prog 58 #[.agg (mac a b c rf pl)] W fun e w'=>∃q,e=.returned (.tuple #[.pointer (some ⟨q,0,none⟩),.int .i64 0])∧W.heap.size≤q∧bn w' q M M.st∧Below W.heap.size W w')) (HT:Hid (∀W,Calls Tryz.prog 25 #[.string t] W fun e w'=>e=.returned (.agg #[.int .i64 0,.int .i64 0])∧Below W.heap.size W w')):Calls Tryz.prog 50 #[.agg (mac a b c rf pl),.string t] w fun e w'=>e=.returned (.tuple #[.string ⟨(Om.wr M M.st t.data.toList).toArray⟩,.agg #[.int .i64 0,.int .i64 0]])∧Below w.heap.size w w':=by
 obtain ⟨i0,hi0,hz0,hz1,hz2⟩:=fe uF
 have HNP:=(show Hid (∀k c,c<26→Om.now M (Om.steps M M.st k) c<26) from fun k c hc=>(Om.lf hM _).lt c hc)
 have h0:=iK.new w a b c rf pl
 clear hM
 go_enter Tryz.func50,Tryz.ntmps50
 go_wp2_with (first | refine wpList_load_row rfl 27 _ rfl w.heap.size rfl 27 (mac a b c rf pl) (0,0) _ h0.load Tryz.underlying27 rfl (by rw[aE];exact aF) ?_)
 refine (HW.out _ h0.mg.below).mono ?_
 rintro e W1 ⟨q,rfl,hq,hrot,hb⟩
 have h1:=h0.step hb
 have hq1:w.heap.size+1<q:=by have:=h0.res.lt;omega
 clear hb h0 HW hq
 go_wp2_with fail
 refine (HT.out _).mono ?_
 rintro e W2 ⟨rfl,hb⟩
 have h2:=(h1.step hb).alloc (.cells #[.int .i64 0,.int .i64 0] 37)
 have hrot2:=(hrot.below hb).alloc (.cells #[.int .i64 0,.int .i64 0] 37)
 clear hb h1 HT hrot
 obtain ⟨V,hV⟩:∃V,V=W2.alloc (.cells #[.int .i64 0,.int .i64 0] 37):=⟨_,rfl⟩
 rw[←hV] at h2 hrot2
 have hqV:=hrot2.row.lt
 go_wp2_with (first | (at_make;rw[←hV];refine wpList_make_own _ rfl _ _ 129 rfl V.heap.size 5 i0 (.int .u8 0) 1 Tryz.underlying129 hi0 hz0 hz1 _ _ _ t.size rfl rfl rfl (by rw[hz2];omega) (by unfold maxLen;omega) (Nat.le_refl _) ?_;intro w1 hown1 hgrow1))
 have hbn:Below V.heap.size V w1:=⟨hgrow1.os,hgrow1.tape,hgrow1.output,hgrow1.size,fun k hk=>hgrow1.block k hk (by simp)⟩
 have hg0:sX w w1 a b c rf pl q M (Om.steps M M.st 0) V.heap.size _ (Om.wr M M.st (t.data.toList.take 0)):=⟨h2.step hbn,hrot2.below hbn,hq1,hqV,hown1,hgrow1.size⟩
 have hB:V.heap.size=W2.heap.size+1:=by rw[hV];simp
 rw[hB] at hg0
 clear hB hbn hown1 hgrow1 hqV hrot2 h2 hq1 hV
 go_loopw [31,9] (fun i y W=>∃(k:Nat) (v9:Value),k≤t.size∧i=.int .i64 (k:Nat)∧v9=y∧sX w W a b c rf pl q M (Om.steps M M.st k) (W2.heap.size+1) v9 (Om.wr M M.st (t.data.toList.take k))) (fun i _ _=>((t.size:Int)-intOf i).toNat)
 case atStart=>exact ⟨0,_,by omega,rfl,rfl,hg0⟩
 case round =>
  clear hg0
  obtain ⟨k,v9,hk,rfl,rfl,hg⟩:=hrel
  by_cases hlt:k<t.size
  ·have hlt2:(k:Int)<(t.size:Int):=by omega
   have hxl:=ht.at (jH hlt)
   have hnum:=mJ hxl
   have hby:t[k]=t.data.toList.getD k 0:=(ei t k hlt).symm
   have HWT:=(show Hid _ from FU (M:=M) (jH hlt) M.st)
   have HNB:=(show Hid _ from HNP.out (k+1) _ hnum)
   have HSTK:=(show Hid (Om.step M (Om.steps M M.st k)=Om.steps M M.st (k+1)) from rfl)
   have HLL:Hid ((Om.wr M M.st (t.data.toList.take k)).length≤k):=by rw[Hid,Om.gV,List.length_take];omega
   generalize t.data.toList.getD k 0=x at *
   go_wp2_with fail
   refine (wv q M _ _ hg.rot).mono ?_
   rintro e W3 ⟨rfl,hr,hgr⟩
   rw[HSTK.out] at hr
   have hg2:=hg.II hr hgr
   clear hr hgr hg
   go_wp2_with fail
   refine (kE x hxl _).mono ?_
   rintro e W4 ⟨rfl,rfl⟩
   clear hby
   go_wp2_with fail
   refine (nO q M _ (Vg.num x) hnum _ hg2.rot).mono ?_
   rintro e W4 ⟨rfl,hb⟩
   have hg3:=hg2.step hb
   clear hb hg2
   obtain ⟨z,hz⟩:∃z,z=Om.now M (Om.steps M M.st (k+1)) (Vg.num x):=⟨_,rfl⟩
   rw[←hz] at HNB HWT ⊢
   clear hz
   go_wp2_with fail
   refine (yz z HNB.out _).mono ?_
   rintro e W5 ⟨rfl,rfl⟩
   have hlt4:=hg3.rot.row.lt
   have hq2:=hg3.q2
   have hsz2:=hg3.sz
   go_wp2_with (first | (at_builtin;refine wpList_append_own _ rfl _ _ 129 rfl (W2.heap.size+1) 5 i0 (.int .u8 0) 1 1 Tryz.underlying129 hi0 hz0 hz1 hz2 rfl (by decide) _ _ _ rfl (World.ownsRow.alloc hg3.own _) ⟨W4.heap.size,0,none⟩ 1 1 [.int .u8 ((ltr z).toNat:Int)] rfl rfl (cell_one_new _ _ _) (fun u hu=>by simp at hu;subst hu;rfl) (by have:=HLL.out;unfold maxLen;omega) (by have:=HLL.out;omega) (by simp;omega) ?_;intro v5 w5 hown5 hgrow5 _))
   have HG4:sX w w5 a b c rf pl q M (Om.steps M M.st (k+1)) (W2.heap.size+1) v5 (Om.wr M M.st (t.data.toList.take (k+1))):=by
    have hlo:∀k,v9.ownBlock=some k→W2.heap.size+1≤k:=fun k hk=>(World.ownsRow.lt hg3.own k hk).1
    have hq:=hg3.q1
    have hal:=hg3.wt.alloc (.cells #[.int .u8 ((ltr z).toNat:Int)] 5)
    have har:=hg3.rot.alloc (.cells #[.int .u8 ((ltr z).toNat:Int)] 5)
    refine ⟨hal.grown hgrow5 (fun k hk=>by have:=hlo k hk;omega),⟨(hgrow5.block q har.row.lt (fun e=>by have:=hlo q e.symm;omega)).trans har.row,har.ok,har.ins⟩,hq,hq2,?_,by have:=hgrow5.size;simp at this;omega⟩
    rw[HWT.out]
    unfold Kit.Dp
    rw[←uy,List.length_append]
    exact hown5
   clear hg3 hown5 hgrow5
   go_roundw
   case rel=>exact ⟨k+1,v5,by omega,by go_num,rfl,HG4⟩
   case measure=>simp[intOf];omega
  ·obtain rfl:k=t.size:=by omega
   have hnlt:¬(t.size:Int)<(t.size:Int):=by omega
   have hown:=hg.own
   rw[Pl.aK,List.take_length] at hown
   have hst:=Kit.kV (P:=Tryz.prog) wr 129 9 5 Tryz.underlying129 Tryz.underlying5 Tryz.underlying9 hown
   have c0:=hg.wt.res.cell (i:=0) rfl
   have c1:=hg.wt.res.cell (i:=1) rfl
   have f0:=hg.wt.res.frozen 0
   have f1:=hg.wt.res.frozen 1
   have hwt:=hg.wt
   clear hown hg
   go_wp2
   have q:=Kit.qp (.int .i64 0) (.int .i64 0) c0 c1
   exact bodyPost_ret (v:=.tuple #[.string ⟨(Om.wr M M.st t.data.toList).toArray⟩,.agg #[.int .i64 0,.int .i64 0]]) (by simp[results,Tryz.results50,go_sem,q.1,q.2]) rfl ⟨rfl,hwt.done _ _⟩
theorem yI (vm:Value) (g:Gm) (t:ByteArray) (w:World) (hm:cE w vm g):Calls Tryz.prog 50 #[vm,.string t] w fun e w'=>e=.returned (.tuple #[.string ⟨(rwS g t.data.toList).toArray⟩,.agg #[.int .i64 (rwE g t.data.toList),.int .i64 (Bx g t.data.toList)]])∧Below w.heap.size w w':=by
 have HN:=fun W (hb:Below w.heap.size w W)=>zJ vm g W (hm.below hb)
 unfold rwS
 by_cases hg:gE g=0
 ·have HG:∀W,Below w.heap.size w W→Calls Tryz.prog 58 #[vm] W fun e w'=>∃q,e=.returned (.tuple #[.pointer (some ⟨q,0,none⟩),.int .i64 0])∧W.heap.size≤q∧bn w' q (fO g) (fO g).st∧Below W.heap.size W w':=fun W hb=>(HN W hb).mono (by
   rintro e w' (⟨h1,_⟩ | ⟨_,h2⟩)
   ·exact absurd hg h1
   ·exact h2)
  have e:rwE g t.data.toList=ckE t.data.toList:=by unfold rwE;rw[if_neg (fun h=>h hg)]
  have e':Bx g t.data.toList=oG t.data.toList:=by unfold Bx;rw[if_neg (fun h=>h hg)]
  rcases lG t.data.toList with ⟨e1,e2,e3,e4⟩ | e1
  ·obtain ⟨hM,_⟩:=lW hg
   obtain ⟨a,b,c,rfl,_⟩:=hm
   rw[e,e',e1,e2,if_neg (by decide)]
   exact KZ _ hM a b c g.rf g.pl t (It e4) (by rw[Pl.aK];exact e3) w HG (fun W=>by have:=eK t W;rw[e1,e2] at this;exact this)
  ·obtain ⟨a,b,c,rfl,_⟩:=hm
   rw[e,e',if_pos (by simpa using e1)]
   exact GI a b c g.rf g.pl t _ _ e1 w (fun W hb=>(HG W hb).mono (by rintro e w' ⟨q,h1,_,_,h2⟩;exact ⟨q,h1,h2⟩)) (fun W=>eK t W)
 ·have e:rwE g t.data.toList=gE g:=by unfold rwE;rw[if_pos hg]
  have e':Bx g t.data.toList=0:=by unfold Bx;rw[if_pos hg]
  obtain ⟨a,b,c,rfl,_⟩:=hm
  rw[e,e',if_pos hg]
  exact J3 a b c g.rf g.pl t _ (by simpa using hg) w (fun W hb=>(HN W hb).mono (by
   rintro e w' (⟨_,h2⟩ | ⟨h1,_⟩)
   ·exact h2
   ·exact absurd h1 hg))
end
section
open Go.RowKit PK Vg Sm
noncomputable def one (s:Sp) (t:List UInt8):List UInt8 :=
 if s.k=1 then mvL s.n.toNat t else if s.k=2 then Kk s.n.toNat s.key.data.toList t else if s.k=3 then KX t.length (K3 s t.length) t
 else if s.k=4 then KX t.length (K3 s t.length) t else if s.k=5 then LB s.r s.Z t t.length else Om.wr (fO s.g) (fO s.g).st t
def K0 (s:Sp) (n:Nat):Int:=if s.k=5∧n % s.r≠0 then 8 else 0
section
variable {s:Sp} {t:List UInt8}
theorem Di (k:s.k=1):one s t=mvL s.n.toNat t:=by unfold one;rw[if_pos k]
theorem Du (k:s.k=6):one s t=Om.wr (fO s.g) (fO s.g).st t:=by unfold one;rw[if_neg (by omega),if_neg (by omega),if_neg (by omega),if_neg (by omega),if_neg (by omega)]
end
theorem Gv {l:List UInt8} (h:Ls l):Pl.Lets l:=fun c hc=>by
 have:=h c hc
 simp[Pl.isL]
 omega
theorem GZ {l:List UInt8} (h:Pl.Lets l):Ls l:=fun c hc=>by
 have:=h c hc
 simp[Pl.isL] at this
 omega
theorem H7 {l:List UInt8} (h:Ls l) (hn:l.length≤65536):ckE l=0:=by
 unfold ckE
 rw[if_neg (by omega)]
 exact (iZ l (Pl.DM l (Gv h))).1
theorem Iy {l:List UInt8} (h:ckE l=0):Ls l∧l.length≤65536:=⟨GZ (zi h).2.2,(zi h).2.1⟩
theorem JZ (b:Nat) (l:List UInt8):Ls (mvL b l):=fun c hc=>by
 obtain ⟨x,hx,rfl⟩:=List.mem_map.1 hc
 unfold mvC
 rw[jM (Nat.mod_lt _ (by omega))]
 have:=Nat.mod_lt (Vg.num x+b) (show 0<26 by omega)
 omega
section
variable (w:World) {s:Sp} {t:List UInt8} (hs:stE s=0) (ht:ckE t=0)
include w hs ht
end
end
section
open Go.RowKit PK Vg Sm
theorem oK (t:ByteArray):t.data.toList.length=t.size:=(Pl.aK t).symm
end
section
open Go.RowKit PK Vg Sm
end
section
open Go.Shelf Go.RowKit
shelf_lay LaysM.n316 Nm 316 at Tryz as Tryz.laysClone
theorem IK:Tryz.laysClone_ren.f 316=51:=by kernel_rfl
theorem xY (s:ByteArray) (hs:s.size≤65536) (w:World):Calls Tryz.prog 51 #[.string s] w fun e w'=>e=.returned (.string s)∧Below w.heap.size w w':=by
 have h:=Any.stringslite_Clone Tryz.laysClone s w (by omega)
 rw[IK] at h
 exact h
set_option maxRecDepth 100000 in
theorem sE (s:ByteArray) (hs:s.size≤65536) (w:World):Calls Tryz.prog 27 #[.string s] w fun e w'=>e=.returned (.string s)∧Below w.heap.size w w':=by
 have HC:Hid _:=xY s hs w
 go_enter Tryz.func27,Tryz.ntmps27
 go_wp2_with fail
 refine Calls.mono HC.out ?_
 rintro e V ⟨rfl,hb⟩
 go_wp2
 go_ret
 exact ⟨rfl,hb⟩
end
section
open Go.RowKit PK Vg Sm
def fir (f:Nat→Int):Nat→Option Nat
 | 0=>none
 | m+1=>match fir f m with
  | some i=>some i
  | none=>if f m=0 then none else some m
theorem kR {f:Nat→Int}:∀{m:Nat},fir f m=none→∀i,i<m→f i=0
 | 0,_,i,hi=>by omega
 | m+1,h,i,hi=>by
  unfold fir at h
  cases hm:fir f m with
  | some x=>rw[hm] at h;cases h
  | none =>
   rw[hm] at h
   by_cases e:f m=0
   ·by_cases hi2:i=m
    ·rw[hi2];exact e
    ·exact kR hm i (by omega)
   ·simp only[if_neg e] at h;cases h
theorem zy {f:Nat→Int}:∀{m:Nat},(∀i,i<m→f i=0)→fir f m=none
 | 0,_=>rfl
 | m+1,h=>by unfold fir;rw[zy (fun i hi=>h i (by omega))];simp only[if_pos (h m (by omega))]
theorem qo {f:Nat→Int}:∀{m i:Nat},fir f m=some i→i<m∧f i≠0∧∀j,j<i→f j=0
 | 0,i,h=>by cases h
 | m+1,i,h=>by
  unfold fir at h
  cases hm:fir f m with
  | some x=>rw[hm] at h;cases h;obtain ⟨h1,h2⟩:=qo hm;exact ⟨by omega,h2⟩
  | none =>
   rw[hm] at h
   by_cases e:f m=0
   ·simp only[if_pos e] at h;cases h
   ·simp only[if_neg e] at h;cases h;exact ⟨by omega,e,fun j hj=>kR hm j hj⟩
theorem Jd {f:Nat→Int} {m i:Nat} (hi:i<m) (h0:∀j,j<i→f j=0) (h:f i≠0):fir f m=some i:=by
 cases hm:fir f m with
 | none=>exact absurd (kR hm i hi) h
 | some j =>
  obtain ⟨h1,h2,h3⟩:=qo hm
  by_cases hj:j<i
  ·exact absurd (h0 j hj) h2
  ·by_cases hji:i<j
   ·exact absurd (h3 i hji) h
   ·rw[show j=i by omega]
def oB (f:Nat→Int) (m:Nat):Int:=((fir f m).map f).getD 0
def IV (f:Nat→Int) (m:Nat):Nat:=(fir f m).getD 0
theorem Ar {f:Nat→Int} {m:Nat} (h:oB f m=0):∀i,i<m→f i=0:=by
 unfold oB at h
 cases hm:fir f m with
 | none=>exact kR hm
 | some i=>rw[hm] at h;exact absurd h (qo hm).2.1
theorem Cq {f:Nat→Int} {m:Nat} (h:∀i,i<m→f i=0):oB f m=0:=by unfold oB;rw[zy h];rfl
theorem Ho {f:Nat→Int} {m i:Nat} (hi:i<m) (h0:∀j,j<i→f j=0) (h:f i≠0):oB f m=f i∧IV f m=i:=by
 unfold oB IV
 rw[Jd hi h0 h]
 exact ⟨rfl,rfl⟩
noncomputable def runT (l:Nat→Sp) (t:List UInt8):Nat→List UInt8
 | 0=>t
 | k+1=>one (l k) (runT l t k)
def rE (n:Nat) (l:Nat→Sp) (t:List UInt8):Int:=if chE n l≠0 then chE n l else if ckE t≠0 then ckE t else oB (fun i=>K0 (l i) t.length) n
noncomputable def rS (n:Nat) (l:Nat→Sp) (t:List UInt8):List UInt8:=if rE n l t=0 then runT l t n else []
theorem Ga {n:Nat} {l:Nat→Sp} {t:List UInt8} (h:rE n l t=0):chE n l=0∧ckE t=0∧∀i,i<n→K0 (l i) t.length=0:=by
 unfold rE at h
 by_cases h1:chE n l≠0
 ·rw[if_pos h1] at h;exact absurd h h1
 ·rw[if_neg h1] at h
  by_cases h2:ckE t≠0
  ·rw[if_pos h2] at h;exact absurd h h2
  ·rw[if_neg h2] at h;exact ⟨by simpa using h1,by simpa using h2,Ar h⟩
structure jv (W:World) (bl bt:Nat) (v:Value) (t:ByteArray):Prop where
 row:af W bl 35 #[v]
 txt:af W bt 9 #[.string t]
 ne:bl≠bt
section
variable {W V:World} {bl bt:Nat} {v:Value} {t:ByteArray}
theorem jv.cl (h:jv W bl bt v t):W.cell? ⟨bl,0,none⟩=some v:=h.row.cell rfl
theorem jv.ct (h:jv W bl bt v t):W.cell? ⟨bt,0,none⟩=some (.string t):=h.txt.cell rfl
theorem jv.ft (h:jv W bl bt v t):W.frozen? ⟨bt,0,none⟩=false:=h.txt.frozen 0
theorem jv.below (h:jv W bl bt v t) (hb:Below W.heap.size W V):jv V bl bt v t:=⟨h.row.below hb h.row.lt,h.txt.below hb h.txt.lt,h.ne⟩
theorem jv.set (h:jv W bl bt v t) (t2:ByteArray):jv (W.setCell ⟨bt,0,none⟩ (.string t2)) bl bt v t2:=⟨h.row.setOther _ _ h.ne,h.txt.set 0 _,h.ne⟩
end
section
variable {P:Program} {md:Region.Mode} {ops:Array Oper} {Q:Exit→Act→World→Prop} {S:World→Prop}
theorem aY (i d:Nat) (v:Value) {oi:Oper} {fuel:Nat} {listed:Array Bool} {tm:Array Value} {df:List Deferred} {w:World} (hi:ops[i]? = some oi) (hd:oi.dst=some d)
  (hs:Region.noSelect ops=true) (hf:Region.free md ops listed i=true) (hr:(Region.ready md ops listed).contains i=true)
  (hQ:∀c a w,Q (.panic c) (a.put (some d) v) w→Q (.panic c) a w) (hw:Region.wanted oi (yielded ops tm)=true) (hrun:∀W,S W→(execOp (Act.eval ⟨tm,df⟩) oi).run P W=.ok (.value v) W) (hS:S w)
  (h:wpAnyH P md ops Q S fuel (listed.setIfInBounds i true) ⟨tm.setIfInBounds d v,df⟩ w):wpAnyH P md ops Q S (fuel+1) listed ⟨tm,df⟩ w:=by
 refine wpAnyH_take (i:=i) (oi:=oi) (v:=v) hi hs hf hr (by rw[hd];exact hQ) (Or.inl ⟨hw,fun W hW=>hrun W hW⟩) hS ?_
 rw[hd]
 exact h
end
theorem zG (x y:Int) (w:World):(Instr.field 37 (.agg #[.int .i64 x,.int .i64 y]) 0).run Tryz.prog w=.ok (.int .i64 x) w:=by kernel_rfl
structure Lv (w0 w:World) (bt:Nat) (W:World):Prop where
 old:Below w0.heap.size w0 W
 rest:∀b,b≠bt→b<w.heap.size→W.heap[b]? = w.heap[b]?
 size:w.heap.size≤W.heap.size
theorem Lv.refl {w0 w:World} {bt:Nat} (h:Below w0.heap.size w0 w):Lv w0 w bt w:=⟨h,fun _ _ _=>rfl,Nat.le_refl _⟩
theorem Lv.step {w0 w W V:World} {bt:Nat} (h:Lv w0 w bt W) (hb:Below W.heap.size W V):Lv w0 w bt V :=
 ⟨h.old.trans (hb.mono h.old.size),fun b h1 h2=>(hb.block b (by have:=h.size;omega)).trans (h.rest b h1 h2),by have:=h.size;have:=hb.size;omega⟩
theorem Lv.set {w0 w W:World} {bt:Nat} (h:Lv w0 w bt W) (hbt:w0.heap.size≤bt) (x:Value):Lv w0 w bt (W.setCell ⟨bt,0,none⟩ x) :=
 ⟨h.old.setCell (p:=⟨bt,0,none⟩) hbt x,fun b h1 h2=>(heap_setCell_other W ⟨bt,0,none⟩ b x h1).trans (h.rest b h1 h2),by have:=h.size;simpa using this⟩
theorem ET (args:Array Value) (W:World):(callFunc 22 args).run Tryz.prog W=.ok (.enter 22 args) W:=by kernel_rfl
end
end Go.Proofs.YtgacaecjinlhiaaGreatDoor
