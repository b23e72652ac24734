/-
  Several texts, joined: YPut, SKit.
-/
import Derived.Test.YtkohhdkkbaifoaaGreatDoorJn9
import Derived.Test.YtkohhdkkbaifoaaGreatDoorJn1
import Derived.Test.YtkohhdkkbaifoaaGreatDoorJn8
import Derived.WalkSpells
import Derived.WalkSmall
/-
  Contracts of rails.put, back, Write and Read.
-/
namespace Go.Proofs.YtkohhdkkbaifoaaGreatDoor
open Go.RowKit PK

theorem y_info_byte:(Tryz.prog.info? 5).map (fun i=>(i.zero,i.size,i.bytes))=some (some (.int .u8 0),1,1):=by kernel_rfl
def putL (n:Nat) (f:Nat→Int) (l:List UInt8):List UInt8:=(List.range n).map fun i=>l.getD (f i).toNat 0
def putB (f:Nat→Int) (l:List UInt8) (m:Nat):Nat→UInt8:=fun i=>if i<m then l.getD (f i).toNat 0 else 0
def bytsY (n:Nat) (g:Nat→UInt8):Array Value:=tab n fun i=>.int .u8 (g i).toNat
theorem byts_setY (n:Nat) (g:Nat→UInt8) (i:Nat) (b:UInt8):(bytsY n g).setIfInBounds i (.int .u8 b.toNat)=bytsY n (upd g i b):=by
 unfold bytsY
 rw[tab_set]
 exact tab_ext fun j _=>by by_cases e:j=i <;> simp[upd,e]
theorem byts_getY {n:Nat} (g:Nat→UInt8) {i:Nat} (h:i<n):(bytsY n g)[i]? = some (.int .u8 (g i).toNat):=tab_get _ h
theorem byts_newY (n:Nat):(tab n fun _=>.int .u8 0)=bytsY n fun _=>0:=rfl
theorem putB_step (f:Nat→Int) (l:List UInt8) (m:Nat):upd (putB f l m) m (l.getD (f m).toNat 0)=putB f l (m+1):=by
 funext i
 unfold upd putB
 by_cases h:i=m
 ·rw[if_pos h,if_pos (by omega),h]
 ·rw[if_neg h]
  by_cases h2:i<m
  ·rw[if_pos h2,if_pos (by omega)]
  ·rw[if_neg h2,if_neg (by omega)]
theorem putL_length (n:Nat) (f:Nat→Int) (l:List UInt8):(putL n f l).length=n:=by simp[putL]
theorem putB_all (n:Nat) (f:Nat→Int) (l:List UInt8):bytsY n (putB f l n)=(Lib.byteCells (putL n f l)).toArray:=by
 unfold bytsY tab Lib.byteCells putL
 congr 1
 rw[List.map_map]
 apply List.map_congr_left
 intro i hi
 have:i<n:=by simpa using hi
 simp[putB,this]
theorem run_string_of_rowY {P:Program} (w:World) (src dst e:TypeId) (hs:P.underlying src=some (.slice e)) (he:P.underlying e=some (.int .u8)) (hd:P.underlying dst=some .string)
  {g n cap:Nat} {T:TypeId} {l:List UInt8} (hn:l.length=n) (h:RowAt w g T (Lib.byteCells l).toArray):(convert src dst (.slice (some ⟨g,0,none⟩) n cap)).run P w=.ok (.string ⟨l.toArray⟩) w:=by
 subst hn
 rw[run_convert_bytes_string w src dst e _ _ _ hs he hd]
 have hl:=run_loadCells_list (P:=P) (w:=w) ⟨g,0,none⟩ (Lib.byteCells l) (fun j v hv=>by
  have e:((⟨g,0,none⟩:Addr).add j)=⟨g,j,none⟩:=by unfold Addr.add;by_cases e0:j=0 <;> simp[e0]
  rw[e]
  exact h.cell (by simpa using hv))
 rw[Lib.byteCells_length] at hl
 have e1:Lib.byteCells l=(l.map fun b=>(b.toNat:Int)).map (Value.int .u8):=by simp[Lib.byteCells]
 rw[e1] at hl
 rw[run_bytesToString w _ _ _ _ hl,Kit.foldl_push]
 simp
set_option maxHeartbeats 1000000 in
theorem put_any (v:Value) (n:Nat) (f:Nat→Int) (s:ByteArray) (w:World) (hv:NumsAt w v n f) (hn:n=s.size) (hl:∀i,i<n→0≤f i∧f i<n) (hs:n≤65536) :
  Calls Tryz.prog 123 #[v,.string s] w fun e w'=>e=.returned (.string ⟨(putL n f s.data.toList).toArray⟩)∧Below w.heap.size w w':=by
 subst hn
 have hmk:=run_make_row' (P:=Tryz.prog) 87 5 (.int .u8 0) 1 Tryz.underlying87 y_info_byte rfl .i64 .i64 s.size (by omega) (by omega)
 rw[y_made_tab,byts_newY] at hmk
 obtain ⟨a,cap,rfl,hm,hc⟩:=hv
 have HC:=(show Hid (∀c,c<s.size→∃b o,a=some ⟨b,o,none⟩∧w.cell? ⟨b,o+c,none⟩=some (.int .i64 (f c))) from hc)
 have HL:=(show Hid (∀i,i<s.size→0≤f i∧f i<s.size) from hl)
 clear hc hl
 go_enter Tryz.func123,Tryz.ntmps123
 go_wp2
 go_loopw [13] (fun i W=>∃m:Nat,m≤s.size∧i=.int .i64 m∧RowAt W w.heap.size 5 (bytsY s.size (putB f s.data.toList m))∧Below w.heap.size w W) (fun i _=>((s.size:Int)-intOf i).toNat)
 case atStart=>exact ⟨0,by omega,rfl,RowAt.new w _ _,(Below.refl _ _).alloc (Nat.le_refl _) _⟩
 case round =>
  obtain ⟨m,hm,rfl,ro,hb⟩:=hrel
  by_cases hlt:m<s.size
  ·obtain ⟨b,o,rfl,hc0⟩:=HC.out m hlt
   have hc:=(hb.cell (p:=⟨b,o+m,none⟩) (cell_block hc0)).trans hc0
   have hlm:=HL.out m hlt
   obtain ⟨x,hxe⟩:∃x:Nat,f m=x:=⟨(f m).toNat,by omega⟩
   have hxn:x<s.size:=by omega
   have hxn2:(x:Int)<(s.size:Int):=by omega
   have hcx:=ro.cell (byts_getY (putB f s.data.toList m) hlt)
   have hfx:=ro.frozen m
   have ro2:RowAt (wr.setCell ⟨w.heap.size,m,none⟩ (.int .u8 (s[x].toNat))) w.heap.size 5 (bytsY s.size (putB f s.data.toList (m+1))):=by
    have:=ro.set m (.int .u8 (s[x].toNat))
    rw[byts_setY,←getD_byte s x hxn,show x=(f m).toNat by omega,putB_step] at this
    rw[←getD_byte s x hxn,show x=(f m).toNat by omega]
    exact this
   have hbb:=hb.setCell (p:=⟨w.heap.size,m,none⟩) (by simp) (.int .u8 (s[x].toNat))
   rw[hxe] at hc
   clear hc0 hlm hxe ro hb
   go_wp2
   exact ⟨⟨m+1,by omega,by go_num,ro2,hbb⟩,by simp[intOf];omega⟩
  ·obtain rfl:m=s.size:=by omega
   rw[putB_all] at ro
   have hst:=run_string_of_rowY (P:=Tryz.prog) wr 87 9 5 Tryz.underlying87 Tryz.underlying5 Tryz.underlying9 (cap:=s.size) (putL_length s.size f s.data.toList) ro
   go_wp2
   go_ret
   exact ⟨rfl,hb⟩
def backF (f:Nat→Int):Nat→Nat→Int
 | 0=>fun _=>0
 | m+1=>upd (backF f m) (f m).toNat m
set_option maxHeartbeats 1000000 in
theorem back_any (v:Value) (n:Nat) (f:Nat→Int) (w:World) (hv:NumsAt w v n f) (hl:∀i,i<n→0≤f i∧f i<n) (hs:n≤65536) :
  Calls Tryz.prog 145 #[v] w fun e w'=>e=.returned (.slice (some ⟨w.heap.size,0,none⟩) n n)∧RowAt w' w.heap.size 3 (ints n (backF f n))∧Below w.heap.size w w':=by
 have hmk:=run_make_row' (P:=Tryz.prog) 25 3 (.int .i64 0) 8 Tryz.underlying25 y_info_int rfl .i64 .i64 n (by omega) (by omega)
 rw[y_made_tab,ints_new] at hmk
 obtain ⟨a,cap,rfl,hm,hc⟩:=hv
 have HC:=(show Hid (∀c,c<n→∃b o,a=some ⟨b,o,none⟩∧w.cell? ⟨b,o+c,none⟩=some (.int .i64 (f c))) from hc)
 have HL:=(show Hid (∀i,i<n→0≤f i∧f i<n) from hl)
 clear hc hl
 go_enter Tryz.func145,Tryz.ntmps145
 go_wp2
 go_loopw [11] (fun i W=>∃m:Nat,m≤n∧i=.int .i64 m∧RowAt W w.heap.size 3 (ints n (backF f m))∧Below w.heap.size w W) (fun i _=>((n:Int)-intOf i).toNat)
 case atStart=>exact ⟨0,by omega,rfl,RowAt.new w _ _,(Below.refl _ _).alloc (Nat.le_refl _) _⟩
 case round =>
  obtain ⟨m,hm,rfl,ro,hb⟩:=hrel
  by_cases hlt:m<n
  ·obtain ⟨b,o,rfl,hc0⟩:=HC.out m hlt
   have hc:=(hb.cell (p:=⟨b,o+m,none⟩) (cell_block hc0)).trans hc0
   have hlm:=HL.out m hlt
   obtain ⟨x,hxe⟩:∃x:Nat,f m=x:=⟨(f m).toNat,by omega⟩
   have hxn:x<n:=by omega
   have hxn2:(x:Int)<(n:Int):=by omega
   have hcx:=ro.cell (ints_get (backF f m) hxn)
   have hfx:=ro.frozen x
   have ro2:RowAt (wr.setCell ⟨w.heap.size,x,none⟩ (.int .i64 m)) w.heap.size 3 (ints n (backF f (m+1))):=by
    have:=ro.set x (.int .i64 m)
    rw[ints_set,show x=(f m).toNat by omega] at this
    rw[show x=(f m).toNat by omega]
    exact this
   have hbb:=hb.setCell (p:=⟨w.heap.size,x,none⟩) (by simp) (.int .i64 m)
   rw[hxe] at hc
   clear hc0 hlm hxe ro hb
   go_wp2
   exact ⟨⟨m+1,by omega,by go_num,ro2,hbb⟩,by simp[intOf];omega⟩
  ·obtain rfl:m=n:=by omega
   go_wp2
   go_ret
   exact ⟨rfl,ro,hb⟩
theorem backF_at {n:Nat} {f:Nat→Int} (hg:GoodO n f):∀m,m≤n→∀i,i<m→backF f m (f i).toNat=i
 | 0,_,i,hi=>by omega
 | m+1,hm,i,hi=>by
  show upd (backF f m) (f m).toNat m (f i).toNat=i
  by_cases e:i=m
  ·rw[e,upd_same]
  ·rw[upd_other]
   ·exact backF_at hg m (by omega) i (by omega)
   ·intro h
    have h1:=hg.lt i (by omega)
    have h2:=hg.lt m (by omega)
    exact e (hg.inj i m (by omega) (by omega) (by omega))
theorem onto_of {n:Nat} {f:Nat→Int} (hg:GoodO n f) (x:Nat) (hx:x<n):∃i,i<n∧f i=x:=by
 -- f's numbers are n different ones below n
 have h1:=Sm.nodup_len (List.range n) ((List.range n).map fun i=>(f i).toNat) List.nodup_range
 apply Classical.byContradiction
 intro hno
 have hnd:((List.range n).map fun i=>(f i).toNat).Nodup:=by
  rw[List.nodup_iff_pairwise_ne,List.pairwise_map]
  refine (Sm.range_pw n).imp_of_mem ?_
  intro i j hi hj hij e
  have hi':i<n:=by simpa using hi
  have hj':j<n:=by simpa using hj
  have:=hg.inj i j hi' hj' (by have:=hg.lt i hi';have:=hg.lt j hj';omega)
  omega
 have h2:=Sm.nodup_len _ ((List.range n).erase x) hnd (fun y hy=>by
  obtain ⟨i,hi,rfl⟩:=List.mem_map.1 hy
  have hi':i<n:=by simpa using hi
  have hl:=hg.lt i hi'
  refine (List.mem_erase_of_ne fun e=>hno ⟨i,hi',by omega⟩).2 (by simp;omega))
 rw[List.length_erase_of_mem (by simpa using hx)] at h2
 simp at h2
 omega
theorem GoodO.back {n:Nat} {f:Nat→Int} (hg:GoodO n f):GoodO n (backF f n)∧(∀x,x<n→0≤backF f n x∧backF f n x<n∧f (backF f n x).toNat=x):=by
 have h1:∀x,x<n→0≤backF f n x∧backF f n x<n∧f (backF f n x).toNat=x:=fun x hx=>by
  obtain ⟨i,hi,e⟩:=onto_of hg x hx
  have:=backF_at hg n (Nat.le_refl n) i hi
  rw[e] at this
  rw[show x=((x:Int)).toNat by omega,this]
  refine ⟨by omega,by omega,?_⟩
  rw[Int.toNat_natCast,Int.toNat_natCast];exact e
 refine ⟨⟨hg.le,fun x hx=>⟨(h1 x hx).1,(h1 x hx).2.1⟩,fun x y hx hy e=>?_⟩,h1⟩
 have a:=(h1 x hx).2.2
 have b:=(h1 y hy).2.2
 rw[e,b] at a
 omega
set_option maxHeartbeats 1000000 in
theorem ywrite_any (v:Value) (n:Nat) (f:Nat→Int) (s:ByteArray) (w:World) (hv:NumsAt w v n f) :
  Calls Tryz.prog 75 #[v,.string s] w fun e w'=>e=.returned (.tuple #[.string ⟨(if fitE n f s.data.toList=0 then putL n f s.data.toList else []).toArray⟩,.int .i64 (fitE n f s.data.toList)])∧Below w.heap.size w w':=by
 have HM:Hid (Calls Tryz.prog 122 #[v,.string s] w fun e w'=>e=.returned (.int .i64 (fitE n f s.data.toList))∧Below w.heap.size w w'):=misfit_any v n f s w hv
 rcases fitE_cases n f s.data.toList with ⟨h0,hg,_,hn,_,_⟩ | h0
 ·have HP:=(show Hid (∀W,Below w.heap.size w W→Calls Tryz.prog 123 #[v,.string s] W fun e w'=>e=.returned (.string ⟨(putL n f s.data.toList).toArray⟩)∧Below W.heap.size W w') from fun W hW=>put_any v n f s W (hv.below hW) (by rw[hn,Pl.size_len]) hg.lt hg.le)
  rw[if_pos h0,h0]
  rw[h0] at HM
  generalize (⟨(putL n f s.data.toList).toArray⟩:ByteArray)=T at *
  clear hv h0 hg hn
  go_enter Tryz.func75,Tryz.ntmps75
  go_wp2_with (first | (go_at_call 122;refine HM.out.mono ?_;rintro e W1 ⟨rfl,hb1⟩) | (go_at_call 123;refine (HP.out _ hb1).mono ?_;rintro e W2 ⟨rfl,hb2⟩))
  go_ret2
  exact ⟨rfl,hb1.trans (hb2.mono hb1.size)⟩
 ·rw[if_neg (by simpa using h0)]
  generalize fitE n f s.data.toList=E at *
  have h4:(E==0)=false:=by simpa using h0
  clear h0 hv
  go_enter Tryz.func75,Tryz.ntmps75
  go_wp2_with (first | (go_at_call 122;refine HM.out.mono ?_;rintro e W1 ⟨rfl,hb1⟩))
  go_ret2
  exact ⟨rfl,hb1⟩
set_option maxHeartbeats 1000000 in
theorem yread_any (v:Value) (n:Nat) (f:Nat→Int) (s:ByteArray) (w:World) (hv:NumsAt w v n f) :
  Calls Tryz.prog 92 #[v,.string s] w fun e w'=>e=.returned (.tuple #[.string ⟨(if fitE n f s.data.toList=0 then putL n (backF f n) s.data.toList else []).toArray⟩,.int .i64 (fitE n f s.data.toList)])∧Below w.heap.size w w':=by
 have HM:Hid (Calls Tryz.prog 122 #[v,.string s] w fun e w'=>e=.returned (.int .i64 (fitE n f s.data.toList))∧Below w.heap.size w w'):=misfit_any v n f s w hv
 rcases fitE_cases n f s.data.toList with ⟨h0,hg,_,hn,_,_⟩ | h0
 ·have HB:=(show Hid (∀W,Below w.heap.size w W→Calls Tryz.prog 145 #[v] W fun e w'=>e=.returned (.slice (some ⟨W.heap.size,0,none⟩) n n)∧RowAt w' W.heap.size 3 (ints n (backF f n))∧Below W.heap.size W w') from fun W hW=>back_any v n f W (hv.below hW) hg.lt hg.le)
  have HP:=(show Hid (∀W g,RowAt W g 3 (ints n (backF f n))→Calls Tryz.prog 123 #[.slice (some ⟨g,0,none⟩) n n,.string s] W fun e w'=>e=.returned (.string ⟨(putL n (backF f n) s.data.toList).toArray⟩)∧Below W.heap.size W w') from fun W g hr=>put_any _ n (backF f n) s W (NumsAt.of_row hr (by have:=hg.le;unfold maxLen;omega)) (by rw[hn,Pl.size_len]) hg.back.1.lt hg.le)
  rw[if_pos h0,h0]
  rw[h0] at HM
  generalize (⟨(putL n (backF f n) s.data.toList).toArray⟩:ByteArray)=T at *
  clear hv h0 hg hn
  go_enter Tryz.func92,Tryz.ntmps92
  go_wp2_with (first | (go_at_call 122;refine HM.out.mono ?_;rintro e W1 ⟨rfl,hb1⟩) | (go_at_call 145;refine (HB.out _ hb1).mono ?_;rintro e W2 ⟨rfl,ro2,hb2⟩) | (go_at_call 123;refine (HP.out _ _ ro2).mono ?_;rintro e W3 ⟨rfl,hb3⟩))
  go_ret2
  exact ⟨rfl,(hb1.trans (hb2.mono hb1.size)).trans (hb3.mono (by have:=hb1.size;have:=hb2.size;omega))⟩
 ·rw[if_neg (by simpa using h0)]
  generalize fitE n f s.data.toList=E at *
  have h4:(E==0)=false:=by simpa using h0
  clear h0 hv
  go_enter Tryz.func92,Tryz.ntmps92
  go_wp2_with (first | (go_at_call 122;refine HM.out.mono ?_;rintro e W1 ⟨rfl,hb1⟩))
  go_ret2
  exact ⟨rfl,hb1⟩
end Go.Proofs.YtkohhdkkbaifoaaGreatDoor

/-
  Laws of no program: one row that is written while all other blocks stay; rows that are swapped, turned round and sorted, step by step.
-/
namespace Go.Proofs.YtkohhdkkbaifoaaGreatDoor
open Go.RowKit PK Sm

theorem gb_refl (w:World) (r:Option Nat):w.grownBy w r:=⟨rfl,rfl,rfl,Nat.le_refl _,fun _ _ _=>rfl⟩
theorem gb_trans {a w w':World} {r:Option Nat} (h:a.grownBy w r) (k:w.grownBy w' r):a.grownBy w' r :=
 ⟨k.os.trans h.os,k.tape.trans h.tape,k.output.trans h.output,Nat.le_trans h.size k.size,fun j hj hr=>(k.block j (Nat.lt_of_lt_of_le hj h.size) hr).trans (h.block j hj hr)⟩
theorem gb_set {a w:World} {g:Nat} (h:a.grownBy w (some g)) (i:Nat) (v:Value):a.grownBy (w.setCell ⟨g,i,none⟩ v) (some g) :=
 gb_trans h ⟨rfl,rfl,rfl,by simp,fun j _ hr=>heap_setCell_other w ⟨g,i,none⟩ j v (by intro e;exact hr (by rw[e]))⟩
theorem gb_drew {a w:World} {r:Option Nat} (h:a.grownBy w r):a.grownBy w.drew r:=⟨h.os,h.tape,h.output,h.size,h.block⟩
theorem gb_to_below {w w':World} {g B:Nat} (h:w.grownBy w' (some g)) (hB:B≤w.heap.size) (hg:B≤g):Below B w w' :=
 ⟨h.os,h.tape,h.output,h.size,fun k hk=>h.block k (by omega) (by intro e;cases e;omega)⟩
def swF (a b k:Nat) (d:Nat→Int):Nat→Int:=fun i=>if a≤i∧i<a+k then d (i-a+b) else if b≤i∧i<b+k then d (i-b+a) else d i
theorem swF_zero (a b:Nat) (d:Nat→Int):swF a b 0 d=d:=by
 funext i
 unfold swF
 rw[if_neg (by omega),if_neg (by omega)]
theorem swF_at (a b k m:Nat) (d:Nat→Int) (hk:k<m) (h:a+m≤b):swF a b k d (a+k)=d (a+k)∧swF a b k d (b+k)=d (b+k):=by
 unfold swF
 constructor
 ·rw[if_neg (by omega),if_neg (by omega)]
 ·rw[if_neg (by omega),if_neg (by omega)]
theorem swF_step (a b k m:Nat) (d:Nat→Int) (hk:k<m) (h:a+m≤b):upd (upd (swF a b k d) (a+k) (d (b+k))) (b+k) (d (a+k))=swF a b (k+1) d:=by
 funext i
 unfold upd swF
 by_cases e1:i=b+k
 ·rw[if_pos e1,if_neg (by omega),if_pos (by omega)];congr 1;omega
 ·rw[if_neg e1]
  by_cases e2:i=a+k
  ·rw[if_pos e2,if_pos (by omega)];congr 1;omega
  ·rw[if_neg e2]
   by_cases h1:a≤i∧i<a+k
   ·rw[if_pos h1,if_pos (by omega)]
   ·rw[if_neg h1,if_neg (show ¬(a≤i∧i<a+(k+1)) by omega)]
    by_cases h2:b≤i∧i<b+k
    ·rw[if_pos h2,if_pos (by omega)]
    ·rw[if_neg h2,if_neg (by omega)]
theorem rot_more (m i j:Nat) (d:Nat→Int) (hi:i≤m) (hj:j<i):rotF (m-i) m (m+j) d=rotF (m-(i-j)) m (m+j) (swF (m-i) m j d):=by
 funext x
 unfold rotF rotP swF
 by_cases h1:m-i≤x∧x<m+j
 ·rw[if_pos h1]
  by_cases h2:x<m-i+(m+j-m)
  ·rw[if_pos h2,if_neg (show ¬(m-(i-j)≤x∧x<m+j) by omega),if_pos (by omega)];congr 1;omega
  ·rw[if_neg h2,if_pos (show m-(i-j)≤x∧x<m+j by omega)]
   by_cases h3:x<m-(i-j)+(m+j-m)
   ·rw[if_pos h3]
    rw[if_neg (show ¬(m-i≤x+(m-(m-(i-j)))∧x+(m-(m-(i-j)))<m-i+j) by omega),if_pos (by omega)];congr 1;omega
   ·rw[if_neg h3,if_neg (show ¬(m-i≤x-(m+j-m)∧x-(m+j-m)<m-i+j) by omega),if_neg (by omega)]
 ·rw[if_neg h1,if_neg (show ¬(m-(i-j)≤x∧x<m+j) by omega),if_neg (by omega),if_neg (by omega)]
theorem rot_less (m i j:Nat) (d:Nat→Int) (hi:i≤m) (hj:i<j):rotF (m-i) m (m+j) d=rotF (m-i) m (m+(j-i)) (swF (m-i) (m+j-i) i d):=by
 funext x
 unfold rotF rotP swF
 by_cases h1:m-i≤x∧x<m+j
 ·rw[if_pos h1]
  by_cases h2:x<m-i+(m+j-m)
  ·rw[if_pos h2,if_pos (show m-i≤x∧x<m+(j-i) by omega)]
   by_cases h3:x<m-i+(m+(j-i)-m)
   ·rw[if_pos h3]
    rw[if_neg (show ¬(m-i≤x+(m-(m-i))∧x+(m-(m-i))<m-i+i) by omega),if_neg (by omega)]
   ·rw[if_neg h3,if_pos (by omega)];congr 1;omega
  ·rw[if_neg h2,if_neg (show ¬(m-i≤x∧x<m+(j-i)) by omega),if_neg (by omega),if_pos (by omega)];congr 1;omega
 ·rw[if_neg h1,if_neg (show ¬(m-i≤x∧x<m+(j-i)) by omega),if_neg (by omega),if_neg (by omega)]
theorem rot_even (m i:Nat) (d:Nat→Int) (hi:i≤m):rotF (m-i) m (m+i) d=swF (m-i) m i d:=by
 funext x
 unfold rotF rotP swF
 by_cases h1:m-i≤x∧x<m+i
 ·rw[if_pos h1]
  by_cases h2:x<m-i+(m+i-m)
  ·rw[if_pos h2,if_pos (by omega)];congr 1;omega
  ·rw[if_neg h2,if_neg (show ¬(m-i≤x∧x<m-i+i) by omega),if_pos (by omega)];congr 1;omega
 ·rw[if_neg h1,if_neg (by omega),if_neg (by omega)]
theorem swap_next (j:Nat) (d:Nat→Int):upd (upd d (j+1) (d j)) j (d (j+1))=rotF j (j+1) (j+2) d:=by
 funext x
 unfold upd rotF rotP
 by_cases h1:x=j
 ·rw[if_pos h1,if_pos (by omega),if_pos (by omega)];congr 1;omega
 ·rw[if_neg h1]
  by_cases h2:x=j+1
  ·rw[if_pos h2,if_pos (by omega),if_neg (by omega)];congr 1;omega
  ·rw[if_neg h2,if_neg (by omega)]
theorem swap_next' (j:Nat) (d:Nat→Int):upd (upd d j (d (j+1))) (j+1) (d j)=rotF j (j+1) (j+2) d:=by
 rw[←swap_next]
 funext x
 unfold upd
 by_cases h1:x=j
 ·rw[if_neg (by omega),if_pos h1,if_pos h1]
 ·by_cases h2:x=j+1
  ·rw[if_pos h2,if_neg h1,if_pos h2]
  ·rw[if_neg h2,if_neg h1,if_neg h1,if_neg h2]
theorem rot_up (a k:Nat) (d:Nat→Int) (h:a≤k):rotF k (k+1) (k+2) (rotF a (a+1) (k+1) d)=rotF a (a+1) (k+2) d:=by
 funext x
 unfold rotF rotP
 by_cases h1:k≤x∧x<k+2
 ·rw[if_pos h1]
  by_cases h2:x<k+(k+2-(k+1))
  ·rw[if_pos h2,if_neg (by omega),if_pos (by omega),if_pos (by omega)];congr 1;omega
  ·rw[if_neg h2,if_pos (show a≤x-(k+2-(k+1))∧x-(k+2-(k+1))<k+1 by omega),if_neg (by omega),if_pos (by omega),if_neg (by omega)];congr 1;omega
 ·rw[if_neg h1]
  by_cases h3:a≤x∧x<k+1
  ·rw[if_pos h3,if_pos (by omega),if_pos (by omega),if_pos (by omega)]
  ·rw[if_neg h3,if_neg (by omega)]
theorem rot_down (m k:Nat) (d:Nat→Int) (h:k<m):rotF k (k+1) (k+2) (rotF (k+1) m (m+1) d)=rotF k m (m+1) d:=by
 funext x
 unfold rotF rotP
 by_cases h1:k≤x∧x<k+2
 ·rw[if_pos h1]
  by_cases h2:x<k+(k+2-(k+1))
  ·rw[if_pos h2,if_pos (show k+1≤x+(k+1-k)∧x+(k+1-k)<m+1 by omega),if_pos (by omega),if_pos (by omega),if_pos (by omega)];congr 1;omega
  ·rw[if_neg h2,if_neg (by omega),if_pos (by omega),if_neg (by omega)];congr 1;omega
 ·rw[if_neg h1]
  by_cases h3:k+1≤x∧x<m+1
  ·rw[if_pos h3,if_neg (by omega),if_pos (by omega),if_neg (by omega)]
  ·rw[if_neg h3,if_neg (by omega)]
def InR (n:Nat) (d:Nat→Int):Prop:=∀i,i<n→0≤d i∧d i<n
theorem Mv.inR {n a b:Nat} {d d':Nat→Int} (h:Mv a b d d') (hb:b≤n) (hd:InR n d):InR n d':=fun i hi=>by
 by_cases c:a≤i∧i<b
 ·obtain ⟨j,hj,e⟩:=h.mem i c
  rw[e];exact hd j (by omega)
 ·rw[h.out i c];exact hd i hi
structure Ins (K:Int→Int) (n a i j:Nat) (e:Nat→Int):Prop where
 stab:Stab K n e
 near:∀p q,a≤p→p<q→q≤i→p≠j→q≠j→LL K (e p) (e q)
 far:∀q,j<q→q≤i→LL K (e j) (e q)
theorem Ins.start {K:Int→Int} {n a i:Nat} {e:Nat→Int} (hs:Stab K n e) (h:Srt K e a i):Ins K n a i i e :=
 ⟨hs,fun p q hp hpq hq h1 h2=>h p q hp hpq (by omega),fun q h1 h2=>by omega⟩
theorem Ins.step {K:Int→Int} {n a i j:Nat} {e:Nat→Int} (h:Ins K n a i (j+1) e) (hj:a≤j) (hji:j+1≤i) (hi:i<n) (hk:K (e (j+1))<K (e j)):Ins K n a i j (rotF j (j+1) (j+2) e):=by
 have at1:rotF j (j+1) (j+2) e j=e (j+1):=by unfold rotF rotP;rw[if_pos (by omega),if_pos (by omega)];congr 1;omega
 have at2:rotF j (j+1) (j+2) e (j+1)=e j:=by unfold rotF rotP;rw[if_pos (by omega),if_neg (by omega)];congr 1;omega
 have at3:∀x,x≠j→x≠j+1→rotF j (j+1) (j+2) e x=e x:=fun x h1 h2=>by unfold rotF rotP;rw[if_neg (by omega)]
 refine ⟨rot_stab (by omega) (by omega) (by omega) h.stab fun x y h1 h2 h3 h4=>?_,fun p q hp hpq hq h1 h2=>?_,fun q h1 h2=>?_⟩
 ·rw[show x=j by omega,show y=j+1 by omega];exact hk
 ·by_cases c1:p=j+1
  ·rw[c1,at2,at3 q (by omega) (by omega)];exact h.near j q hj (by omega) hq (by omega) (by omega)
  ·by_cases c2:q=j+1
   ·rw[c2,at2,at3 p h1 c1];exact h.near p j hp (by omega) (by omega) (by omega) (by omega)
   ·rw[at3 p h1 c1,at3 q h2 c2];exact h.near p q hp hpq hq c1 c2
 ·rw[at1]
  by_cases c:q=j+1
  ·rw[c,at2];exact .inl hk
  ·rw[at3 q (by omega) c];exact h.far q (by omega) h2
theorem Ins.done {K:Int→Int} {n a i j:Nat} {e:Nat→Int} (h:Ins K n a i j e) (_:a≤j) (hji:j≤i) (hi:i<n) (hk:j=a∨¬K (e j)<K (e (j-1))):Srt K e a (i+1):=by
 intro p q hp hpq hq
 by_cases c1:p=j
 ·rw[c1];exact h.far q (by omega) (by omega)
 ·by_cases c2:q=j
  ·rcases hk with hk | hk
   ·omega
   ·have h1:LL K (e (j-1)) (e j):=ll_of h.stab (by omega) (by omega) hk
    rw[c2]
    by_cases c3:p=j-1
    ·rw[c3];exact h1
    ·exact (h.near p (j-1) hp (by omega) (by omega) c1 (by omega)).trans h1
  ·exact h.near p q hp hpq (by omega) c1 c2
theorem div_same {x a bs:Nat} (h0:0<bs) (hd:bs ∣ a) (h1:a≤x) (h2:x<a+bs):x / bs=a / bs:=by
 obtain ⟨t,rfl⟩:=hd
 rw[Nat.mul_div_cancel_left t h0]
 have:=Nat.div_mul_le_self x bs
 apply Nat.le_antisymm
 ·apply Nat.le_of_lt_succ
  rw[Nat.div_lt_iff_lt_mul h0,Nat.succ_mul,Nat.mul_comm t]
  exact h2
 ·rw[Nat.le_div_iff_mul_le h0,Nat.mul_comm]
  exact h1
theorem div_less {x a bs:Nat} (h0:0<bs) (hd:bs ∣ a) (h2:x<a):x / bs<a / bs:=by
 obtain ⟨t,rfl⟩:=hd
 rw[Nat.mul_div_cancel_left t h0,Nat.div_lt_iff_lt_mul h0,Nat.mul_comm]
 exact h2
theorem div_more {x a bs:Nat} (h2:a≤x):a / bs≤x / bs:=Nat.div_le_div_right h2
end Go.Proofs.YtkohhdkkbaifoaaGreatDoor
