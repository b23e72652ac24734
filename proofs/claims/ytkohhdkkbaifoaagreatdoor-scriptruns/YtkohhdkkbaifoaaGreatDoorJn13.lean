/-
  Several texts, joined: ScD, ScE, HTimes, HMade.
-/
import Derived.Test.YtkohhdkkbaifoaaGreatDoorJn6
import Derived.Test.YtkohhdkkbaifoaaGreatDoorJn8
import Derived.Test.YtkohhdkkbaifoaaGreatDoorJn10
import Derived.Test.YtkohhdkkbaifoaaGreatDoorJn12
import Derived.Test.YtkohhdkkbaifoaaGreatDoorJn2
import Derived.Deep.RegionHeld3
import Derived.Deep.OwnRows
/-
  Contracts of script.moved, orderOf and checkPieces; what they make.
-/
namespace Go.Proofs.YtkohhdkkbaifoaaGreatDoor
open Go.RowKit PK Vg

def mvC (by':Nat) (c:UInt8):UInt8:=ltr ((Vg.num c+by') % 26)
def mvL (by':Nat) (l:List UInt8):List UInt8:=l.map (mvC by')
def mvB (by':Nat) (l:List UInt8) (m:Nat):Nat→UInt8:=fun i=>if i<m then mvC by' (l.getD i 0) else 0
theorem mvB_step (b:Nat) (l:List UInt8) (m:Nat):upd (mvB b l m) m (mvC b (l.getD m 0))=mvB b l (m+1):=by
 funext i
 unfold upd mvB
 by_cases h:i=m
 ·rw[if_pos h,if_pos (by omega),h]
 ·rw[if_neg h]
  by_cases h2:i<m
  ·rw[if_pos h2,if_pos (by omega)]
  ·rw[if_neg h2,if_neg (by omega)]
theorem mvL_length (b:Nat) (l:List UInt8):(mvL b l).length=l.length:=by simp[mvL]
theorem mvB_all (b:Nat) (l:List UInt8):bytsY l.length (mvB b l l.length)=(Lib.byteCells (mvL b l)).toArray:=by
 unfold bytsY tab Lib.byteCells mvL
 congr 1
 rw[List.map_map]
 apply List.ext_getElem
 ·simp
 ·intro i h1 h2
  have h3:i<l.length:=by simpa using h1
  simp[mvB,h3]
theorem at_let (s:ByteArray) (hl:Pl.Lets s.data.toList) (m:Nat) (h:m<s.size):65≤s[m].toNat∧s[m].toNat≤90:=by
 have h2:m<s.data.toList.length:=by rw[←Pl.size_len s];exact h
 have e:s.data.toList[m]=s[m]:=rfl
 have:=hl s.data.toList[m] (List.getElem_mem _)
 rw[e] at this
 simp[Pl.isL] at this
 omega
set_option maxHeartbeats 400000 in
theorem num17_any (c:UInt8) (h:65≤c.toNat∧c.toNat≤90) (w:World):Calls Tryz.prog 117 #[.int .u8 c.toNat] w fun e w'=>e=.returned (.int .i64 (Vg.num c:Nat))∧w=w':=by
 have h1:(c.toNat:Int)-65=((Vg.num c:Nat):Int):=by unfold Vg.num;omega
 have H1:Hid ((c.toNat:Int)-65=((Vg.num c:Nat):Int)):=h1
 clear h1
 obtain ⟨h2,h3⟩:=h
 go_enter Tryz.func117,Tryz.ntmps117
 go_wp2
 go_ret
 exact ⟨ret_int H1.out,rfl⟩
set_option maxHeartbeats 400000 in
theorem let17_any (n:Nat) (h:n<26) (w:World):Calls Tryz.prog 116 #[.int .i64 n] w fun e w'=>e=.returned (.int .u8 (ltr n).toNat)∧w=w':=by
 rw[ltr_toNat h]
 go_enter Tryz.func116,Tryz.ntmps116
 go_wp2
 go_ret
 exact ⟨ret_int (by omega),rfl⟩
set_option maxRecDepth 100000 in
set_option maxHeartbeats 1000000 in
theorem moved_any (s:ByteArray) (b:Nat) (hb26:b≤26) (hs:s.size≤65536) (hl:Pl.Lets s.data.toList) (w:World) :
  Calls Tryz.prog 73 #[.string s,.int .i64 (b:Nat)] w fun e w'=>e=.returned (.string ⟨(mvL b s.data.toList).toArray⟩)∧Below w.heap.size w w':=by
 have hmk:=run_make_row' (P:=Tryz.prog) 87 5 (.int .u8 0) 1 Tryz.underlying87 y_info_byte rfl .i64 .i64 s.size (by omega) (by omega)
 rw[y_made_tab,byts_newY] at hmk
 have HL:Hid (∀m,(h:m<s.size)→65≤s[m].toNat∧s[m].toNat≤90):=fun m h=>at_let s hl m h
 have HLen:Hid (s.data.toList.length=s.size):=by rw[Hid,←Pl.size_len s]
 clear hl
 go_enter Tryz.func73,Tryz.ntmps73
 go_wp2_with fail
 go_loopw [12] (fun i W=>∃m:Nat,m≤s.size∧i=.int .i64 m∧RowAt W w.heap.size 5 (bytsY s.size (mvB b s.data.toList m))∧Below w.heap.size w W) (fun i _=>((s.size:Int)-intOf i).toNat)
 case atStart=>exact ⟨0,by omega,rfl,RowAt.new w _ _,(Below.refl _ _).alloc (Nat.le_refl _) _⟩
 case round =>
  obtain ⟨m,hm,rfl,ro,hb⟩:=hrel
  by_cases hlt:m<s.size
  ·have hlm:=HL.out m hlt
   have hcx:=ro.cell (byts_getY (mvB b s.data.toList m) hlt)
   have hfx:=ro.frozen m
   have ro2:RowAt (wr.setCell ⟨w.heap.size,m,none⟩ (.int .u8 (mvC b s[m]).toNat)) w.heap.size 5 (bytsY s.size (mvB b s.data.toList (m+1))):=by
    have:=ro.set m (.int .u8 (mvC b s[m]).toNat)
    rw[byts_setY,←getD_byte s m hlt,mvB_step] at this
    rw[←getD_byte s m hlt]
    exact this
   have hbb:=hb.setCell (p:=⟨w.heap.size,m,none⟩) (by simp) (.int .u8 (mvC b s[m]).toNat)
   have HN:Hid _:=num17_any s[m] hlm wr
   have hn26:=num_lt hlm
   have HLT:Hid _:=let17_any ((Vg.num s[m]+b) % 26) (by omega) wr
   have HMV:Hid (mvC b s[m]=ltr ((Vg.num s[m]+b) % 26)):=rfl
   generalize mvC b s[m]=C at *
   generalize Vg.num s[m]=x at *
   have hx2:((x:Int)+(b:Int))≤60:=by omega
   have htm:((x:Int)+(b:Int)) % 26=(((x+b) % 26:Nat):Int):=by omega
   rw[←HMV.out,←htm] at HLT
   clear hlm ro hb htm
   go_wp2_with fail
   refine Calls.mono HN.out ?_
   rintro e V ⟨rfl,rfl⟩
   go_wp2_with fail
   refine Calls.mono HLT.out ?_
   rintro e V ⟨rfl,rfl⟩
   go_wp2_with fail
   exact ⟨⟨m+1,by omega,by go_num,ro2,hbb⟩,by simp[intOf];omega⟩
  ·obtain rfl:m=s.size:=by omega
   have ro2:RowAt wr w.heap.size 5 (Lib.byteCells (mvL b s.data.toList)).toArray:=by
    rw[←mvB_all,HLen.out]
    exact ro
   have hst:=run_string_of_rowY (P:=Tryz.prog) wr 87 9 5 Tryz.underlying87 Tryz.underlying5 Tryz.underlying9 (cap:=s.size) ((mvL_length b s.data.toList).trans HLen.out) ro2
   clear ro
   go_wp2
   go_ret
   exact ⟨rfl,hb⟩
end Go.Proofs.YtkohhdkkbaifoaaGreatDoor

/-
  Orders of rails and of columns, as steps of a chain put them; contracts of script.orderOf and checkPieces.
-/
namespace Go.Proofs.YtkohhdkkbaifoaaGreatDoor
open Go.RowKit PK Vg Sm

theorem backF_congr {d d':Nat→Int}:∀m,(∀i,i<m→d i=d' i)→backF d m=backF d' m
 | 0,_=>rfl
 | m+1,h=>by unfold backF;rw[backF_congr m (fun i hi=>h i (by omega)),h m (by omega)]
theorem putL_congr {n:Nat} {f f':Nat→Int} (l:List UInt8) (h:∀i,i<n→f i=f' i):putL n f l=putL n f' l:=by
 unfold putL
 apply List.map_congr_left
 intro i hi
 rw[h i (by simpa using hi)]
theorem Turns.unique {l:List UInt8} {L:Nat} {t t':Nat→Int} (h:Turns l L t) (h':Turns l L t'):t=t':=by
 obtain ⟨d,ho,hs,e⟩:=h
 obtain ⟨d',ho',hs',e'⟩:=h'
 funext i
 rw[e i,e' i,backF_congr L (srt_unique ho ho' hs hs')]
def OrdP (s:Sp) (m:Nat) (d:Nat→Int):Prop :=
 Order m d∧(s.k=3∧Srt (railKey s.n.toNat) d 0 m∨s.k=4∧∃t,Turns s.key.data.toList s.key.size t∧Srt (turnK s.key.size t) d 0 m)
theorem OrdP.unique {s:Sp} {m:Nat} {d d':Nat→Int} (h:OrdP s m d) (h':OrdP s m d'):∀i,i<m→d i=d' i:=by
 obtain ⟨ho,h⟩:=h
 obtain ⟨ho',h'⟩:=h'
 rcases h with ⟨k,hs⟩ | ⟨k,t,ht,hs⟩
 ·rcases h' with ⟨_,hs'⟩ | ⟨k',_⟩
  ·exact srt_unique ho ho' hs hs'
  ·omega
 ·rcases h' with ⟨k',_⟩ | ⟨_,t',ht',hs'⟩
  ·omega
  ·rw[ht'.unique ht] at hs';exact srt_unique ho ho' hs hs'
noncomputable def ordF (s:Sp) (m:Nat):Nat→Int:=Classical.epsilon (OrdP s m)
theorem ordF_of {s:Sp} {m:Nat} {d:Nat→Int} (h:OrdP s m d):OrdP s m (ordF s m)∧∀i,i<m→d i=ordF s m i :=
 have hx:OrdP s m (ordF s m):=Classical.epsilon_spec ⟨d,h⟩
 ⟨hx,h.unique hx⟩
theorem inE_zero {n lo hi:Int}:inE n lo hi=0↔lo≤n∧n≤hi:=by
 unfold inE
 by_cases h:n<lo∨hi<n
 ·rw[if_pos h];constructor
  ·intro h;cases h
  ·omega
 ·rw[if_neg h];constructor
  ·omega
  ·intro _;rfl
theorem keyE_zero {l:List UInt8} (h:keyE l=0):ckE l=0∧1≤l.length∧l.length≤256:=by
 unfold keyE at h
 by_cases h1:ckE l≠0
 ·rw[if_pos h1] at h;exact absurd h h1
 ·rw[if_neg h1] at h
  by_cases h2:l.length<1∨256<l.length
  ·rw[if_pos h2] at h;cases h
  ·exact ⟨by simpa using h1,by omega,by omega⟩
theorem ck_at {l:List UInt8} (h:ckE l=0):ckAt l=0∧l.length≤65536∧Pl.Lets l:=by
 rcases ck_cases l with ⟨_,h2,h3,h4⟩ | h1
 ·exact ⟨h2,h3,h4⟩
 ·rw[h] at h1;cases h1
section
variable {s:Sp} (h:stE s=0)
include h
theorem st_move (k:s.k=1):0≤s.n∧s.n≤25:=by unfold stE at h;rw[if_pos k] at h;exact inE_zero.1 h
theorem st_tab (k:s.k=2):(1≤s.n∧s.n≤4)∧ckE s.key.data.toList=0∧1≤s.key.data.toList.length∧s.key.data.toList.length≤256:=by
 unfold stE at h
 rw[if_neg (by omega),if_pos k] at h
 by_cases h1:inE s.n 1 4≠0
 ·rw[if_pos h1] at h;exact absurd h h1
 ·rw[if_neg h1] at h;exact ⟨inE_zero.1 (by simpa using h1),keyE_zero h⟩
theorem st_rail (k:s.k=3):1≤s.n∧s.n≤64:=by unfold stE at h;rw[if_neg (by omega),if_neg (by omega),if_pos k] at h;exact inE_zero.1 h
theorem st_col (k:s.k=4):ckE s.key.data.toList=0∧1≤s.key.data.toList.length∧s.key.data.toList.length≤256:=by
 unfold stE at h;rw[if_neg (by omega),if_neg (by omega),if_neg (by omega),if_pos k] at h;exact keyE_zero h
theorem st_hill (k:s.k=5):matErr s.r s.L s.Z=0:=by
 unfold stE at h;rw[if_neg (by omega),if_neg (by omega),if_neg (by omega),if_neg (by omega),if_pos k] at h;exact h
theorem st_rotor (k:s.k=6):gE s.g=0:=by
 unfold stE at h;rw[if_neg (by omega),if_neg (by omega),if_neg (by omega),if_neg (by omega),if_neg (by omega),if_pos k] at h;exact h
theorem st_kinds:s.k=1∨s.k=2∨s.k=3∨s.k=4∨s.k=5∨s.k=6:=by
 unfold stE at h
 by_cases h1:s.k=1
 ·exact .inl h1
 by_cases h2:s.k=2
 ·exact .inr (.inl h2)
 by_cases h3:s.k=3
 ·exact .inr (.inr (.inl h3))
 by_cases h4:s.k=4
 ·exact .inr (.inr (.inr (.inl h4)))
 by_cases h5:s.k=5
 ·exact .inr (.inr (.inr (.inr (.inl h5))))
 by_cases h6:s.k=6
 ·exact .inr (.inr (.inr (.inr (.inr h6))))
 rw[if_neg h1,if_neg h2,if_neg h3,if_neg h4,if_neg h5,if_neg h6] at h
 cases h
end
set_option maxRecDepth 100000 in
set_option maxHeartbeats 1000000 in
theorem ord_any (v:Value) (s:Sp) (m:Nat) (w:World) (hv:SqAt w v s) (hs:stE s=0) (hk:s.k=3∨s.k=4) (hm:m≤65536) :
  Calls Tryz.prog 76 #[v,.int .i64 (m:Nat)] w fun e w'=>∃x d,e=.returned x∧NumsAt w' x m d∧OrdP s m d∧Below w.heap.size w w':=by
 obtain ⟨mv,a,b,c,rfl,_,_,_,_⟩:=hv
 have hr0:=RowAt.new w 31 (spA s.k s.n s.key mv a b c s.g.rf s.g.pl)
 have hbe:Below w.heap.size w (w.alloc (.cells (spA s.k s.n s.key mv a b c s.g.rf s.g.pl) 31)):=(Below.refl _ w).alloc (Nat.le_refl _) _
 have c0:=hr0.cell (spA_0 s.k s.n s.key mv a b c s.g.rf s.g.pl)
 have c1:=hr0.cell (spA_1 s.k s.n s.key mv a b c s.g.rf s.g.pl)
 have c2:=hr0.cell (spA_2 s.k s.n s.key mv a b c s.g.rf s.g.pl)
 generalize spA s.k s.n s.key mv a b c s.g.rf s.g.pl=CS at *
 have HB:Hid _:=hbe
 clear hbe hr0
 go_enter Tryz.func76,Tryz.ntmps76
 rcases hk with hk | hk
 ·obtain ⟨h1,h64⟩:=st_rail hs hk
  obtain ⟨R,hR⟩:∃R:Nat,s.n=R:=⟨s.n.toNat,by omega⟩
  have HRR:Hid (s.n.toNat=R):=by rw[Hid,hR];rfl
  have HKK:Hid (s.k=3):=hk
  have HO:Hid _:=rail_ok m R hm (by omega) (by omega) (w.alloc (.cells CS 31))
  rw[hk] at c0
  rw[hR] at c1
  clear hk hR h1 h64
  go_wp2_with fail
  refine Calls.mono HO.out ?_
  rintro e V ⟨G,d,rfl,hrow,hb,hG,hord,hsrt⟩
  have HN:Hid (NumsAt V (.slice (some ⟨G,0,none⟩) m m) m d):=⟨_,_,rfl,by unfold maxLen;omega,fun c hc=>⟨G,0,rfl,by rw[Nat.zero_add];exact hrow.cell (ints_get d hc)⟩⟩
  have HP:Hid (OrdP s m d):=⟨hord,.inl ⟨HKK.out,by rw[HRR.out];exact hsrt⟩⟩
  have HB2:Hid _:=HB.out.trans (hb.mono HB.out.size)
  clear hrow hb hG hord hsrt
  go_wp2
  go_ret
  exact ⟨_,d,rfl,HN.out,HP.out,HB2.out⟩
 ·obtain ⟨h1,h2,h3⟩:=st_col hs hk
  obtain ⟨h4,_,_⟩:=ck_at h1
  have hl:=Pl.size_len s.key
  have HKK:Hid (s.k=4):=hk
  have HO:Hid _:=col_ok m s.key hm h1 h4 (by omega) (by omega) (w.alloc (.cells CS 31))
  rw[hk] at c0
  clear hk h1 h2 h3 h4 hl
  go_wp2_with fail
  refine Calls.mono HO.out ?_
  rintro e V ⟨G,d,t,rfl,hrow,hb,hG,hord,hsrt,htn⟩
  have HN:Hid (NumsAt V (.slice (some ⟨G,0,none⟩) m m) m d):=⟨_,_,rfl,by unfold maxLen;omega,fun c hc=>⟨G,0,rfl,by rw[Nat.zero_add];exact hrow.cell (ints_get d hc)⟩⟩
  have HP:Hid (OrdP s m d):=⟨hord,.inr ⟨HKK.out,t,htn,hsrt⟩⟩
  have HB2:Hid _:=HB.out.trans (hb.mono HB.out.size)
  clear hrow hb hG hord hsrt htn
  go_wp2
  go_ret
  exact ⟨_,d,rfl,HN.out,HP.out,HB2.out⟩
set_option maxRecDepth 100000 in
theorem cp_ok (a:Option Addr) (n cap:Nat) (A:Int) (t:ByteArray) (w:World) (hn:1≤n) (hn4:n≤4) (ht:t.size≤65536) (h:t.size % n=0):Calls Tryz.prog 77 #[.slice a n cap,.int .i64 A,.string t] w fun e w'=>e=.returned (.tuple #[])∧w'=w:=by
 have h0:¬(n:Int)=0:=by omega
 have h1:((t.size:Int) % (n:Int))=0:=by omega
 go_enter Tryz.func77,Tryz.ntmps77
 go_wp2_with fail
 go_end0
 exact ⟨rfl,rfl⟩
set_option maxRecDepth 100000 in
theorem cp_bad (a:Option Addr) (n cap:Nat) (A:Int) (t:ByteArray) (w:World) (hn:1≤n) (hn4:n≤4) (ht:t.size≤65536) (h:t.size % n≠0):Calls Tryz.prog 77 #[.slice a n cap,.int .i64 A,.string t] w fun e w'=>e=.panicked [flt 8 A]∧w'=w:=by
 have h0:¬(n:Int)=0:=by omega
 have h1:(((t.size:Int) % (n:Int)) != 0)=true:=by simp;omega
 have HT:Hid _:=throw_any 8 A w
 go_enter Tryz.func77,Tryz.ntmps77
 go_wp2_with fail
 refine Calls.mono HT.out ?_
 rintro e w' ⟨rfl,rfl⟩
 exact ⟨rfl,rfl,rfl⟩
end Go.Proofs.YtkohhdkkbaifoaaGreatDoor

/-
  Contracts of hill.past, hill.reciprocal, hill.times, hill.made.
-/
namespace Go.Proofs.YtkohhdkkbaifoaaGreatDoor
open Go.RowKit PK

theorem past_any (i g:Nat) (hi:i≤1000) (w:World):Calls Tryz.prog 187 #[.int .i64 (i:Nat),.int .i64 (g:Nat)] w fun e w'=>e=.returned (.int .i64 ((if i<g then i else i+1:Nat):Int))∧w=w':=by
 by_cases h:i<g
 ·rw[if_pos h]
  go_enter Tryz.func187,Tryz.ntmps187
  go_wp2
  go_ret
  exact ⟨rfl,rfl⟩
 ·rw[if_neg h]
  go_enter Tryz.func187,Tryz.ntmps187
  go_wp2
  go_ret
  exact ⟨ret_int (by omega),rfl⟩
def sumTo (f g:Nat→Int):Nat→Int
 | 0=>0
 | k+1=>sumTo f g k+f k*g k
theorem prod_bound {a b:Int} (ha:0≤a∧a<26) (hb:0≤b∧b<26):0≤a*b∧a*b≤625:=by
 refine ⟨Int.mul_nonneg ha.1 hb.1,?_⟩
 have h1:a*b≤25*b:=Int.mul_le_mul_of_nonneg_right (by omega) hb.1
 omega
theorem sumTo_bound (f g:Nat→Int):∀n,(∀k,k<n→(0≤f k∧f k<26)∧0≤g k∧g k<26)→0≤sumTo f g n∧sumTo f g n≤625*n
 | 0,_=>by simp[sumTo]
 | n+1,h=>by
  have ih:=sumTo_bound f g n fun k hk=>h k (by omega)
  have h1:=prod_bound (h n (by omega)).1 (h n (by omega)).2
  show 0≤sumTo f g n+f n*g n∧sumTo f g n+f n*g n≤625*((n+1:Nat):Int)
  omega
set_option maxHeartbeats 1000000 in
theorem times_any (v:Value) (n:Nat) (hn:n≤4) (f g:Nat→Int) (m:Nat) (cap:Array Value) (w:World) (hv:NumsAt w v n f) (hent:∀(args:Array Value) (W:World),(callFunc m args).run Tryz.prog W=.ok (.enter m args) W)
  (hb:∀k,k<n→(0≤f k∧f k<26)∧0≤g k∧g k<26)
  (hp:∀k,k<n→∀W:World,Below w.heap.size w W→Calls Tryz.prog m (#[.int .i64 (k:Nat)]++cap) W fun e w'=>e=.returned (.int .i64 (g k))∧Below W.heap.size W w') :
  Calls Tryz.prog 127 #[v,.func (.func m) #[] cap] w fun e w'=>e=.returned (.int .i64 (sumTo f g n % 26))∧Below w.heap.size w w':=by
 have HB:Hid (∀k,k<n→(0≤f k∧f k<26)∧0≤g k∧g k<26):=hb
 have HP:Hid (∀k,k<n→∀W:World,Below w.heap.size w W→Calls Tryz.prog m (#[.int .i64 (k:Nat)]++cap) W fun e w'=>e=.returned (.int .i64 (g k))∧Below W.heap.size W w'):=hp
 clear hb hp
 have HV:Hid (NumsAt w v n f):=hv
 obtain ⟨a,cp,rfl,_⟩:=hv.len
 clear hv
 go_enter Tryz.func127,Tryz.ntmps127
 go_wp2
 go_loopw [10,5] (fun i s W=>∃k:Nat,k≤n∧i=.int .i64 k∧s=.int .i64 (sumTo f g k)∧Below w.heap.size w W) (fun i _ _=>((n:Int)-intOf i).toNat)
 case atStart=>exact ⟨0,by omega,rfl,rfl,Below.refl _ _⟩
 case round =>
  obtain ⟨k,hk,rfl,rfl,hb⟩:=hrel
  have HSB:Hid _:=sumTo_bound f g k fun j hj=>HB.out j (by omega)
  by_cases hlt:k<n
  ·obtain ⟨b,o,cp',e,_,hc⟩:=HV.out.form (by omega)
   cases e
   have hck:=(hb.cell (p:=⟨b,o+k,none⟩) (cell_block (hc k hlt))).trans (hc k hlt)
   clear hc
   have HC:Hid (Calls Tryz.prog m (#[.int .i64 (k:Nat)]++cap) wr fun e w'=>e=.returned (.int .i64 (g k))∧Below wr.heap.size wr w'):=HP.out k hlt wr hb
   have hsb:=HSB.out
   have hfg:=prod_bound (HB.out k hlt).1 (HB.out k hlt).2
   have HS:Hid (sumTo f g (k+1)=sumTo f g k+f k*g k):=rfl
   generalize sumTo f g k=s at *
   have HS0:Hid (sumTo f g (k+1)=sumTo f g (k+1)):=rfl
   obtain ⟨s',hs'⟩:∃s',s'=sumTo f g (k+1):=⟨_,rfl⟩
   rw[←hs'] at HS
   replace HS0:Hid (sumTo f g (k+1)=s'):=hs'.symm
   clear hs'
   generalize g k=y at *
   generalize f k=x at *
   obtain ⟨p,hp⟩:∃p,p=x*y:=⟨_,rfl⟩
   rw[←hp] at hfg HS
   have hpw:IntKind.i64.wrap (x*y)=p:=by rw[←hp,IntKind.wrap_i64];omega
   clear hp
   go_wp2_with fail
   refine Calls.mono HC.out ?_
   rintro e w1 ⟨rfl,hb1⟩
   go_wp2
   go_roundw
   case rel=>exact ⟨k+1,by omega,by go_num,by rw[HS0.out,HS.out],hb.trans (hb1.mono hb.size)⟩
   case measure=>simp[intOf];omega
  ·have hkn:k=n:=by omega
   subst hkn
   have hsb:=HSB.out
   go_wp2
   go_ret
   exact ⟨rfl,hb⟩
def recOf (d:Int):Int × Int:=match (List.range 26).find? fun (v:Nat)=>(d*(v:Int)) % 26==1 with | some v=>((v:Int),0) | none=>(0,6)
theorem find_first' (q:Nat→Bool) (k:Nat):∀n,k<n→q k=true→(∀j,j<k→q j=false)→(List.range n).find? q=some k:=fun n hk h1 h2=>by
 induction n with
 | zero=>omega
 | succ n ih =>
  rw[List.range_succ,List.find?_append]
  by_cases h:k<n
  ·rw[ih h];rfl
  ·have:k=n:=by omega
   subst this
   have:(List.range k).find? q=none:=by
    rw[List.find?_eq_none]
    intro x hx
    simp at hx
    rw[h2 x hx]
    simp
   rw[this]
   simp[h1]
set_option maxHeartbeats 1000000 in
theorem recip_any (d:Int) (hd:0≤d∧d<26) (w:World):Calls Tryz.prog 147 #[.int .i64 d] w fun e w'=>e=.returned (.tuple #[.int .i64 (recOf d).1,.int .i64 (recOf d).2])∧w=w':=by
 go_enter Tryz.func147,Tryz.ntmps147
 go_wp2
 go_loop [5] (fun i=>∃m:Nat,m≤26∧i=.int .i64 m∧Hid (∀j,j<m→((d*((j:Nat):Int)) % 26==1)=false)) (fun i=>(26-intOf i).toNat)
 case atStart=>exact ⟨0,by omega,rfl,fun j hj=>by omega⟩
 case round =>
  obtain ⟨m,hm,rfl,HS⟩:=hrel
  by_cases hlt:m<26
  ·obtain ⟨p,hp⟩:∃p,p=d*(m:Int):=⟨_,rfl⟩
   have hb:=prod_bound hd (b:=(m:Int)) (by omega)
   rw[←hp] at hb
   have hpw:IntKind.i64.wrap (d*(m:Int))=p:=by rw[←hp,IntKind.wrap_i64];omega
   by_cases he:(p % 26==1)=true
   ·have HE:Hid (recOf d=((m:Int),0)):=by
     rw[Hid]
     unfold recOf
     rw[find_first' _ m 26 hlt (by rw[←hp];exact he) HS.out]
    clear hp
    go_wp2
    go_ret2
    rw[HE.out]
    exact ⟨rfl,rfl⟩
   ·have he':(p % 26==1)=false:=by simpa using he
    have HE:Hid (((d*(m:Int)) % 26==1)=false):=by rw[Hid,←hp];exact he'
    clear hp he
    go_wp2
    exact ⟨⟨m+1,by omega,by go_num,fun j hj=>by
     rcases Nat.lt_or_eq_of_le (Nat.le_of_lt_succ hj) with h | rfl
     ·exact HS.out j h
     ·exact HE.out⟩,by simp[intOf];omega⟩
  ·have hm26:m=26:=by omega
   subst hm26
   have HE:Hid (recOf d=(0,6)):=by
    rw[Hid]
    unfold recOf
    have:(List.range 26).find? (fun (v:Nat)=>(d*(v:Int)) % 26==1)=none:=by
     rw[List.find?_eq_none]
     intro x hx
     rw[HS.out x (by simpa using hx)]
     simp
    rw[this]
   go_wp2
   go_ret2
   rw[HE.out]
   exact ⟨rfl,rfl⟩
end Go.Proofs.YtkohhdkkbaifoaaGreatDoor

/-
  Contract of hill.made, for any function.
-/
namespace Go.Proofs.YtkohhdkkbaifoaaGreatDoor
open Go.RowKit PK

theorem h_info_int:(Tryz.prog.info? 3).map (fun i=>(i.zero,i.size,i.bytes))=some (some (.int .i64 0),1,8):=by kernel_rfl
theorem h_info_ints:(Tryz.prog.info? 25).map (fun i=>(i.zero,i.size,i.bytes))=some (some (.slice none 0 0),1,24):=by kernel_rfl
def fillV (v:Nat→Value) (z:Value) (k:Nat):Nat→Value:=fun i=>if i<k then v i else z
theorem fillV_step (v:Nat→Value) (z:Value) (k:Nat) (x:Value) (hx:x=v k):upd (fillV v z k) k x=fillV v z (k+1):=by
 funext i
 subst hx
 unfold fillV upd
 by_cases e:i=k
 ·subst e;simp
 ·by_cases h:i<k
  ·simp[e,h];omega
  ·have:¬i<k+1:=by omega
   simp[e,h,this]
def fillI (v:Nat→Int) (k:Nat):Nat→Int:=fun i=>if i<k then v i else 0
theorem fillI_step (v:Nat→Int) (k:Nat) (x:Int) (hx:x=v k):upd (fillI v k) k x=fillI v (k+1):=by
 funext i
 subst hx
 unfold fillI upd
 by_cases e:i=k
 ·subst e;simp
 ·by_cases h:i<k
  ·simp[e,h];omega
  ·have:¬i<k+1:=by omega
   simp[e,h,this]
theorem made_tab (z:Value) (n:Nat):madeCells #[z] n=tab n fun _=>z:=by
 unfold madeCells tab
 apply Array.ext
 ·simp
 ·intro i h1 h2
  simp[Nat.mod_one]
theorem md_set {W:World} {b g y x:Nat} {v u:Value} (h:W.cell? ⟨b,y,none⟩=some v∧b<W.heap.size) (hg:b<g):(W.setCell ⟨g,x,none⟩ u).cell? ⟨b,y,none⟩=some v∧b<(W.setCell ⟨g,x,none⟩ u).heap.size :=
 ⟨(World.cell?_setCell_far W ⟨g,x,none⟩ ⟨b,y,none⟩ u (by simp;omega)).trans h.1,by simpa using h.2⟩
theorem md_call {W W':World} {b y:Nat} {v:Value} (h:W.cell? ⟨b,y,none⟩=some v∧b<W.heap.size) (hb:Below W.heap.size W W'):W'.cell? ⟨b,y,none⟩=some v∧b<W'.heap.size :=
 ⟨(hb.cell (p:=⟨b,y,none⟩) h.2).trans h.1,Nat.lt_of_lt_of_le h.2 hb.size⟩
set_option maxRecDepth 100000 in
set_option maxHeartbeats 2000000 in
theorem made_any (n:Nat) (hn:n≤4) (F:Nat→Nat→Int) (m:Nat) (cap:Array Value) (w:World) (hent:∀(args:Array Value) (W:World),(callFunc m args).run Tryz.prog W=.ok (.enter m args) W)
  (hp:∀y,y<n→∀x,x<n→∀W:World,Below w.heap.size w W→Calls Tryz.prog m (#[.int .i64 (y:Nat),.int .i64 (x:Nat)]++cap) W fun e w'=>e=.returned (.int .i64 (F y x))∧Below W.heap.size W w') :
  Calls Tryz.prog 148 #[.int .i64 (n:Nat),.func (.func m) #[] cap] w fun e w'=>∃v,e=.returned v∧MatAt w' v n (fun _=>n) F∧Below w.heap.size w w':=by
 have HP:Hid (∀y,y<n→∀x,x<n→∀W:World,Below w.heap.size w W→Calls Tryz.prog m (#[.int .i64 (y:Nat),.int .i64 (x:Nat)]++cap) W fun e w'=>e=.returned (.int .i64 (F y x))∧Below W.heap.size W w'):=hp
 clear hp
 have hmk1:=run_make_row' (P:=Tryz.prog) 23 25 (.slice none 0 0) 24 Tryz.underlying23 h_info_ints rfl .i64 .i64 n (by omega) (by omega)
 have hmk2:=run_make_row' (P:=Tryz.prog) 25 3 (.int .i64 0) 8 Tryz.underlying25 h_info_int rfl .i64 .i64 n (by omega) (by omega)
 rw[made_tab] at hmk1 hmk2
 go_enter Tryz.func148,Tryz.ntmps148
 go_wp2
 go_loopw [11] (fun i W=>∃(y:Nat) (g:Nat→Nat),y≤n∧i=.int .i64 y∧RowAt W w.heap.size 25 (tab n (fillV (fun r=>.slice (some ⟨g r,0,none⟩) n n) (.slice none 0 0) y))∧Hid (∀r,r<y→w.heap.size<g r∧RowAt W (g r) 3 (ints n (F r)))∧Below w.heap.size w W) (fun i _=>((n:Int)-intOf i).toNat)
 case atStart =>
  refine ⟨0,fun _=>0,by omega,rfl,?_,fun r hr=>by omega,(Below.refl _ _).alloc (Nat.le_refl _) _⟩
  have:=RowAt.new w 25 (tab n fun _=>.slice none 0 0)
  rw[tab_ext (g':=fillV (fun r=>.slice (some ⟨(fun _=>0) r,0,none⟩) n n) (.slice none 0 0) 0) (fun r _=>by simp[fillV])] at this
  exact this
 case round =>
  obtain ⟨y,g,hy,rfl,ro,HG,hb⟩:=hrel
  by_cases hlt:y<n
  ·have ro1:=ro.alloc (.cells (tab n fun _=>.int .i64 0) 3)
   have hco:=ro1.cell (tab_get (fillV (fun r=>.slice (some ⟨g r,0,none⟩) n n) (.slice none 0 0) y) hlt)
   have hfo:=ro1.frozen y
   have hsz:=ro.lt
   go_wp2
   obtain ⟨g',hg'⟩:∃g',g'=upd g y wr.heap.size:=⟨_,rfl⟩
   have hgy:g' y=wr.heap.size:=by rw[hg',upd_same]
   have ro2:RowAt ((wr.setCell ⟨w.heap.size,y,none⟩ (.slice (some ⟨wr.heap.size,0,none⟩) n n)).alloc (.cells (tab n fun _=>.int .i64 0) 3)) w.heap.size 25 (tab n (fillV (fun r=>.slice (some ⟨g' r,0,none⟩) n n) (.slice none 0 0) (y+1))):=by
    have:=(ro.set y (.slice (some ⟨wr.heap.size,0,none⟩) n n)).alloc (.cells (tab n fun _=>.int .i64 0) 3)
    rw[tab_set,tab_ext (g:=upd (fillV (fun r=>.slice (some ⟨g r,0,none⟩) n n) (.slice none 0 0) y) y _) (g':=fillV (fun r=>.slice (some ⟨g' r,0,none⟩) n n) (.slice none 0 0) (y+1)) (fun r _=>?_)] at this
    ·exact this
    ·unfold upd fillV
     by_cases e:r=y
     ·subst e;rw[if_pos rfl,if_pos (by omega)];show _=Value.slice (some ⟨g' r,0,none⟩) n n;rw[hgy]
     ·rw[if_neg e]
      by_cases h:r<y
      ·rw[if_pos h,if_pos (by omega)];show Value.slice (some ⟨g r,0,none⟩) n n=Value.slice (some ⟨g' r,0,none⟩) n n;rw[hg',upd_other g _ e]
      ·rw[if_neg h,if_neg (by omega)]
   have rc:RowAt ((wr.setCell ⟨w.heap.size,y,none⟩ (.slice (some ⟨wr.heap.size,0,none⟩) n n)).alloc (.cells (tab n fun _=>.int .i64 0) 3)) wr.heap.size 3 (ints n (fillI (F y) 0)):=by
    have:=RowAt.new (wr.setCell ⟨w.heap.size,y,none⟩ (.slice (some ⟨wr.heap.size,0,none⟩) n n)) 3 (tab n fun _=>.int .i64 0)
    rw[World.size_setCell] at this
    rw[tab_ext (g':=fun i=>.int .i64 (fillI (F y) 0 i)) (fun r _=>by simp[fillI])] at this
    exact this
   have HG2:Hid (∀r,r<y→w.heap.size<g' r∧g' r<wr.heap.size∧RowAt ((wr.setCell ⟨w.heap.size,y,none⟩ (.slice (some ⟨wr.heap.size,0,none⟩) n n)).alloc (.cells (tab n fun _=>.int .i64 0) 3)) (g' r) 3 (ints n (F r))):=fun r hr=>by
    obtain ⟨h1,h2⟩:=HG.out r hr
    have e:g' r=g r:=by rw[hg',upd_other g _ (by omega)]
    rw[e]
    exact ⟨h1,h2.lt,(h2.setOther _ _ (by simp;omega)).alloc _⟩
   have hb2:Below w.heap.size w ((wr.setCell ⟨w.heap.size,y,none⟩ (.slice (some ⟨wr.heap.size,0,none⟩) n n)).alloc (.cells (tab n fun _=>.int .i64 0) 3)):=(hb.setCell (by simp) _).alloc (by simp;omega) _
   clear hg' ro1 hco hfo HG ro hb
   obtain ⟨gy,hgy2⟩:∃gy,gy=wr.heap.size:=⟨_,rfl⟩
   rw[←hgy2] at ro2 rc HG2 hb2 hsz hgy ⊢
   have hgg:w.heap.size<gy:=by omega
   generalize (wr.setCell ⟨w.heap.size,y,none⟩ (.slice (some ⟨gy,0,none⟩) n n)).alloc (.cells (tab n fun _=>.int .i64 0) 3)=Z1 at *
   clear hgy2 hsz
   go_loopw [20] (fun i W=>∃x:Nat,x≤n∧i=.int .i64 x∧RowAt W w.heap.size 25 (tab n (fillV (fun r=>.slice (some ⟨g' r,0,none⟩) n n) (.slice none 0 0) (y+1)))∧RowAt W gy 3 (ints n (fillI (F y) x))∧Hid (∀r,r<y→w.heap.size<g' r∧g' r<gy∧RowAt W (g' r) 3 (ints n (F r)))∧Below w.heap.size w W) (fun i _=>((n:Int)-intOf i).toNat)
   case atStart=>exact ⟨0,by omega,rfl,ro2,rc,HG2,hb2⟩
   case round =>
    clear ro2 rc HG2 hb2
    obtain ⟨x,hx,rfl,ro,rc,HG,hb⟩:=hrel
    by_cases hxl:x<n
    ·have hco:=ro.cell (tab_get (fillV (fun r=>.slice (some ⟨g' r,0,none⟩) n n) (.slice none 0 0) (y+1)) hlt)
     rw[show fillV (fun r=>.slice (some ⟨g' r,0,none⟩) n n) (.slice none 0 0) (y+1) y=.slice (some ⟨gy,0,none⟩) n n by unfold fillV;rw[if_pos (by omega)];show Value.slice (some ⟨g' y,0,none⟩) n n=_;rw[hgy]] at hco
     have hslt:=ro.lt
     have hglt:=rc.lt
     have hcy:=rc.cell (ints_get (fillI (F y) x) hxl)
     have hfy:=rc.frozen x
     have HX:Hid (∀W:World,Below w.heap.size w W→Calls Tryz.prog m (#[.int .i64 (y:Nat),.int .i64 (x:Nat)]++cap) W fun e w'=>e=.returned (.int .i64 (F y x))∧Below W.heap.size W w'):=HP.out y hlt x hxl
     obtain ⟨fx,hfx⟩:∃fx,fx=F y x:=⟨_,rfl⟩
     rw[←hfx] at HX
     have HFX:Hid (fx=F y x):=hfx
     clear hfx
     go_wp2
     go_region_held3 (fun W=>W.cell? ⟨w.heap.size,y,none⟩=some (.slice (some ⟨gy,0,none⟩) n n)∧w.heap.size<W.heap.size)
      (first
       | exact ⟨hco,hslt⟩
       | exact md_set (by assumption) (by omega)
       | exact md_call (by assumption) (by assumption))
      (first
       | (refine Calls.mono (HX.out _ (by first | exact hb.drew | exact hb)) ?_;rintro e X1 ⟨rfl,hcall⟩;have hcx:=(hcall.cell (p:=⟨gy,x,none⟩) hglt).trans hcy;have hfx:=(hcall.frozen (p:=⟨gy,x,none⟩) hglt).trans hfy))
     have hcall':Below wr.heap.size wr X1:=⟨hcall.os,hcall.tape,hcall.output,hcall.size,hcall.block⟩
     go_wp2
     go_roundw
     case rel =>
      refine ⟨x+1,by omega,by go_num,(ro.below hcall' hslt).setOther _ _ (by simp;omega),?_,fun r hr=>?_,(hb.trans (hcall'.mono hb.size)).setCell (by simp;omega) _⟩
      ·have:=(rc.below hcall' hglt).set x (.int .i64 fx)
       rw[ints_set,fillI_step _ _ _ HFX.out] at this
       exact this
      ·obtain ⟨h1,h2,h3⟩:=HG.out r hr
       exact ⟨h1,h2,(h3.below hcall' h3.lt).setOther _ _ (by simp;omega)⟩
     case measure=>simp[intOf];omega
    ·have HN:Hid (x=n):=by rw[Hid];omega
     go_wp2
     go_roundw
     case rel =>
      refine ⟨y+1,g',by omega,by go_num,ro,fun r hr=>?_,hb⟩
      by_cases e:r=y
      ·rw[e,hgy]
       refine ⟨hgg,?_⟩
       rw[HN.out] at rc
       rw[ints_ext (f:=F y) (g:=fillI (F y) n) (fun i hi=>by simp[fillI,hi])]
       exact rc
      ·obtain ⟨h1,h2,h3⟩:=HG.out r (by omega)
       exact ⟨h1,h3⟩
     case measure=>simp[intOf];omega
  ·have HN:Hid (y=n):=by rw[Hid];omega
   go_wp2
   go_ret
   refine ⟨_,rfl,?_,hb⟩
   rw[HN.out] at ro HG
   refine MatAt.of_rows ro (by unfold maxLen;omega) fun r hr=>?_
   have e:fillV (fun r=>.slice (some ⟨g r,0,none⟩) n n) (.slice none 0 0) n r=.slice (some ⟨g r,0,none⟩) n n:=by unfold fillV;rw[if_pos hr]
   rw[e]
   exact NumsAt.of_row (HG.out r hr).2 (by unfold maxLen;omega)
end Go.Proofs.YtkohhdkkbaifoaaGreatDoor
