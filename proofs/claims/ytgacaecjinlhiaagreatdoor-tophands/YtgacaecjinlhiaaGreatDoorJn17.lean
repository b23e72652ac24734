import Derived.Shelf.Strings.Repeat
import Derived.Shelf.Lay
import Derived.Test.YtgacaecjinlhiaaGreatDoorJn16
namespace Go.Proofs.YtgacaecjinlhiaaGreatDoor
section
open Go.RowKit PK Vg
def mvC (by':Nat) (c:UInt8):UInt8:=ltr ((Vg.num c+by') % 26)
def mvL (by':Nat) (l:List UInt8):List UInt8:=l.map (mvC by')
def mvB (by':Nat) (l:List UInt8) (m:Nat):Nat→UInt8:=fun i=>if i<m then mvC by' (l.getD i 0) else 0
theorem Dg (b:Nat) (l:List UInt8) (m:Nat):upd (mvB b l m) m (mvC b (l.getD m 0))=mvB b l (m+1):=by
 funext i
 unfold upd mvB
 by_cases h:i=m
 ·rw[if_pos h,if_pos (by omega),h]
 ·rw[if_neg h]
  by_cases h2:i<m
  ·rw[if_pos h2,if_pos (by omega)]
  ·rw[if_neg h2,if_neg (by omega)]
theorem kM (b:Nat) (l:List UInt8):(mvL b l).length=l.length:=by simp[mvL]
theorem FI (b:Nat) (l:List UInt8):lO l.length (mvB b l l.length)=(Lib.byteCells (mvL b l)).toArray:=by
 unfold lO tab Lib.byteCells mvL
 congr 1
 rw[List.map_map]
 apply List.ext_getElem
 ·simp
 ·intro i h1 h2
  have h3:i<l.length:=by simpa using h1
  simp[mvB,h3]
theorem Eu (s:ByteArray) (hl:Pl.Lets s.data.toList) (m:Nat) (h:m<s.size):65≤s[m].toNat∧s[m].toNat≤90:=by
 have h2:m<s.data.toList.length:=by rw[←Pl.aK s];exact h
 have e:s.data.toList[m]=s[m]:=rfl
 have:=hl s.data.toList[m] (List.getElem_mem _)
 rw[e] at this
 simp[Pl.isL] at this
 omega
set_option maxHeartbeats 400000 in
theorem sB (c:UInt8) (h:65≤c.toNat∧c.toNat≤90) (w:World):Calls Tryz.prog 73 #[.int .u8 c.toNat] w fun e w'=>e=.returned (.int .i64 (Vg.num c:Nat))∧w=w':=by
 have h1:(c.toNat:Int)-65=((Vg.num c:Nat):Int):=by unfold Vg.num;omega
 have H1:Hid ((c.toNat:Int)-65=((Vg.num c:Nat):Int)):=h1
 clear h1
 obtain ⟨h2,h3⟩:=h
 go_enter Tryz.func73,Tryz.ntmps73
 go_wp2
 go_ret
 exact ⟨dx H1.out,rfl⟩
set_option maxHeartbeats 400000 in
theorem A9 (n:Nat) (h:n<26) (w:World):Calls Tryz.prog 72 #[.int .i64 n] w fun e w'=>e=.returned (.int .u8 (ltr n).toNat)∧w=w':=by
 rw[jM h]
 go_enter Tryz.func72,Tryz.ntmps72
 go_wp2
 go_ret
 exact ⟨dx (by omega),rfl⟩
set_option maxRecDepth 100000 in
set_option maxHeartbeats 1000000 in
theorem Bi (s:ByteArray) (b:Nat) (hb26:b≤26) (hs:s.size≤65536) (hl:Pl.Lets s.data.toList) (w:World) :
  Calls Tryz.prog 44 #[.string s,.int .i64 (b:Nat)] w fun e w'=>e=.returned (.string ⟨(mvL b s.data.toList).toArray⟩)∧Below w.heap.size w w':=by
 have hmk:=run_make_row' (P:=Tryz.prog) 129 5 (.int .u8 0) 1 Tryz.underlying129 uZ rfl .i64 .i64 s.size (by omega) (by omega)
 rw[qi,BC] at hmk
 have HL:Hid (∀m,(h:m<s.size)→65≤s[m].toNat∧s[m].toNat≤90):=fun m h=>Eu s hl m h
 have HLen:Hid (s.data.toList.length=s.size):=by rw[Hid,←Pl.aK s]
 clear hl
 go_enter Tryz.func44,Tryz.ntmps44
 go_wp2_with fail
 go_loopw [12] (fun i W=>∃m:Nat,m≤s.size∧i=.int .i64 m∧af W w.heap.size 5 (lO s.size (mvB b s.data.toList m))∧Below w.heap.size w W) (fun i _=>((s.size:Int)-intOf i).toNat)
 case atStart=>exact ⟨0,by omega,rfl,af.new w _ _,(Below.refl _ _).alloc (Nat.le_refl _) _⟩
 case round =>
  obtain ⟨m,hm,rfl,ro,hb⟩:=hrel
  by_cases hlt:m<s.size
  ·have hlm:=HL.out m hlt
   have hcx:=ro.cell (AL (mvB b s.data.toList m) hlt)
   have hfx:=ro.frozen m
   have ro2:af (wr.setCell ⟨w.heap.size,m,none⟩ (.int .u8 (mvC b s[m]).toNat)) w.heap.size 5 (lO s.size (mvB b s.data.toList (m+1))):=by
    have:=ro.set m (.int .u8 (mvC b s[m]).toNat)
    rw[BM,←ei s m hlt,Dg] at this
    rw[←ei s m hlt]
    exact this
   have hbb:=hb.setCell (p:=⟨w.heap.size,m,none⟩) (by simp) (.int .u8 (mvC b s[m]).toNat)
   have HN:Hid _:=sB s[m] hlm wr
   have hn26:=mJ hlm
   have HLT:Hid _:=A9 ((Vg.num s[m]+b) % 26) (by omega) wr
   have HMV:Hid (mvC b s[m]=ltr ((Vg.num s[m]+b) % 26)):=rfl
   generalize mvC b s[m]=C at *
   generalize Vg.num s[m]=x at *
   have hx2:((x:Int)+(b:Int))≤60:=by omega
   have htm:((x:Int)+(b:Int)) % 26=(((x+b) % 26:Nat):Int):=by omega
   rw[←HMV.out,←htm] at HLT
   clear hlm ro hb htm
   go_wp2_with fail
   refine Calls.mono HN.out ?_
   rintro e V ⟨rfl,rfl⟩
   go_wp2_with fail
   refine Calls.mono HLT.out ?_
   rintro e V ⟨rfl,rfl⟩
   go_wp2_with fail
   exact ⟨⟨m+1,by omega,by go_num,ro2,hbb⟩,by simp[intOf];omega⟩
  ·obtain rfl:m=s.size:=by omega
   have ro2:af wr w.heap.size 5 (Lib.byteCells (mvL b s.data.toList)).toArray:=by
    rw[←FI,HLen.out]
    exact ro
   have hst:=kB (P:=Tryz.prog) wr 129 9 5 Tryz.underlying129 Tryz.underlying5 Tryz.underlying9 (cap:=s.size) ((kM b s.data.toList).trans HLen.out) ro2
   clear ro
   go_wp2
   go_ret
   exact ⟨rfl,hb⟩
end
section
open Go.RowKit PK Vg Sm
def L1 (s:Sp) (m:Nat) (d:Nat→Int):Prop :=
 Order m d∧(s.k=3∧Srt (F9 s.n.toNat) d 0 m∨s.k=4∧∃t,KM s.key.data.toList s.key.size t∧Srt (Ko s.key.size t) d 0 m)
noncomputable def K3 (s:Sp) (m:Nat):Nat→Int:=Classical.epsilon (L1 s m)
theorem vD {n lo hi:Int}:inE n lo hi=0↔lo≤n∧n≤hi:=by
 unfold inE
 by_cases h:n<lo∨hi<n
 ·rw[if_pos h];constructor
  ·intro h;cases h
  ·omega
 ·rw[if_neg h];constructor
  ·omega
  ·intro _;rfl
theorem zi {l:List UInt8} (h:ckE l=0):oG l=0∧l.length≤65536∧Pl.Lets l:=by
 rcases lG l with ⟨_,h2,h3,h4⟩ | h1
 ·exact ⟨h2,h3,h4⟩
 ·rw[h] at h1;cases h1
section
variable {s:Sp} (h:stE s=0)
include h
theorem Hv (k:s.k=1):0≤s.n∧s.n≤25:=by unfold stE at h;rw[if_pos k] at h;exact vD.1 h
theorem pO (k:s.k=6):gE s.g=0:=by
 unfold stE at h;rw[if_neg (by omega),if_neg (by omega),if_neg (by omega),if_neg (by omega),if_neg (by omega),if_pos k] at h;exact h
end
end
section
open Go.RowKit PK
def sumTo (f g:Nat→Int):Nat→Int
 | 0=>0
 | k+1=>sumTo f g k+f k*g k
end
section
open Go.RowKit PK
theorem yQ:(Tryz.prog.info? 3).map (fun i=>(i.zero,i.size,i.bytes))=some (some (.int .i64 0),1,8):=by kernel_rfl
theorem vw:(Tryz.prog.info? 23).map (fun i=>(i.zero,i.size,i.bytes))=some (some (.slice none 0 0),1,24):=by kernel_rfl
def nZ (v:Nat→Value) (z:Value) (k:Nat):Nat→Value:=fun i=>if i<k then v i else z
theorem EE (z:Value) (n:Nat):madeCells #[z] n=tab n fun _=>z:=by
 unfold madeCells tab
 apply Array.ext
 ·simp
 ·intro i h1 h2
  simp[Nat.mod_one]
end
section
open Go.RowKit PK
def skip (i gone:Nat):Nat:=if i<gone then i else i+1
end
section
open Go.RowKit PK
end
section
open Go.Shelf Go.RowKit PK
shelf_lay Lays.n105 Nm 105 at Tryz as Tryz.laysRepeat
end
section
open Go.RowKit PK
def num (b:UInt8):Int:=(b.toNat:Int)-65
end
section
open Go.RowKit PK
def Lh (n:Nat) (Z:Nat→Nat→Int) (full:List UInt8) (i:Nat):Int:=sumTo (Z (i % n)) (fun k=>num (full.getD (i-i % n+k) 0)) n % 26
def LB (n:Nat) (Z:Nat→Nat→Int) (full:List UInt8) (m:Nat):List UInt8:=(List.range m).map fun i=>UInt8.ofNat (65+(Lh n Z full i).toNat)
end
section
open Go.RowKit PK
end
section
open Go.RowKit PK
end
section
open Go.RowKit PK
section
variable {P:Program} {ops:Array Oper} {Q:Exit→Act→World→Prop} {md:Region.Mode} {S:World→Prop}
end
end
section
open Go.RowKit PK
end
section
open Go.RowKit PK
def flat (P:Nat→Nat→Nat):Nat→Int:=fun i=>(P (i / 26) (i % 26):Nat)
structure mO (w W:World) (f:Nat→Int):Prop where
 r:af W w.heap.size 25 (ints 26 fun _=>0)
 o:af W (w.heap.size+1) 25 (ints 26 f)
 below:Below w.heap.size w W
theorem mO.new (w:World):mO w ((w.alloc (.cells (ints 26 fun _=>0) 25)).alloc (.cells (ints 26 fun _=>0) 25)) fun _=>0:=by
 have h3:=af.new (w.alloc (.cells (ints 26 fun _=>0) 25)) 25 (ints 26 fun _=>0)
 simp only[World.size_alloc] at h3
 exact ⟨(af.new w _ _).alloc _,h3,((Below.refl _ w).alloc (Nat.le_refl _) _).alloc (by simp only[World.size_alloc];omega) _⟩
theorem mO.set {w W:World} {f:Nat→Int} (h:mO w W f) (i:Nat) (v:Int):mO w (W.setCell ⟨w.heap.size+1,i,none⟩ (.int .i64 v)) (upd f i v):=by
 refine ⟨h.r.setOther _ _ (by simp),?_,h.below.setCell (p:=⟨w.heap.size+1,i,none⟩) (by simp) _⟩
 have:=h.o.set i (.int .i64 v)
 rw[ints_set] at this
 exact this
theorem ie {P:Program} {fn:Func} {p:Tmp} {ty:TypeId} (h:fn.results=#[.cell p ty]) (tmps:Array Value) (w:World) (g:Nat) (t:TypeId) (cs:Array Value) (fr:Nat × Nat) (d:TypeDesc)
  (hp:tmps.getD p undef=.pointer (some ⟨g,0,none⟩)) (hg:w.heap[g]? = some (.cells cs t fr))
  (hu:P.underlying ty=some d) (hd:(match d with | .struct _ | .array _ _=>true | _=>false)=true) (hi:(P.info? ty).map (·.size)=some cs.size) :
  (results fn tmps).run P w=.ok (.agg cs) w:=by
 have hp':tmps[p]?.getD undef=.pointer (some ⟨g,0,none⟩):=by simpa using hp
 simp[results,h,hp',asAddr,run_loadVar_row w g t ty cs fr d hg hu hd hi]
end
section
open Go.RowKit PK
def fill (a:Nat→Nat) (v:Nat→Int):Nat→Nat→Int
 | 0=>fun _=>0
 | k+1=>upd (fill a v k) (a k) (v k)
theorem kI (m:Nat) (cap:Array Value) (a:Nat→Nat) (v:Nat→Int) (ha:∀i,i<26→a i<26) (w:World) (hent:∀(args:Array Value) (W:World),(callFunc m args).run Tryz.prog W=.ok (.enter m args) W)
  (hp:∀i,i<26→∀W:World,Below w.heap.size w W→Calls Tryz.prog m (#[.int .i64 (i:Nat)]++cap) W fun e w'=>e=.returned (.tuple #[.int .i64 (a i:Nat),.int .i64 (v i)])∧Below W.heap.size W w') :
  Calls Tryz.prog 93 #[.func (.func m) #[] cap] w fun e w'=>e=.returned (.agg (ints 26 (fill a v 26)))∧Below w.heap.size w w':=by
 have HP:Hid (∀i,i<26→∀W:World,Below w.heap.size w W→Calls Tryz.prog m (#[.int .i64 (i:Nat)]++cap) W fun e w'=>e=.returned (.tuple #[.int .i64 (a i:Nat),.int .i64 (v i)])∧Below W.heap.size W w'):=hp
 clear hp
 go_enter Tryz.func93,Tryz.ntmps93
 go_wp2
 rw[kP]
 go_loopw [7] (fun i W=>∃k:Nat,k≤26∧i=.int .i64 k∧af W w.heap.size 25 (ints 26 fun _=>0)∧af W (w.heap.size+1) 25 (ints 26 (fill a v k))∧Below w.heap.size w W) (fun i _=>(26-intOf i).toNat)
 case atStart =>
  refine ⟨0,by omega,rfl,(af.new w _ _).alloc _,?_,((Below.refl _ _).alloc (Nat.le_refl _) _).alloc (by simp) _⟩
  have:=af.new (w.alloc (Obj.cells (ints 26 fun _=>0) 25)) 25 (ints 26 fun x=>0)
  rw[World.size_alloc] at this
  exact this
 case round =>
  obtain ⟨k,hk,rfl,hrow0,hrow,hb⟩:=hrel
  by_cases hlt:k<26
  ·have ha':=ha k hlt
   have hsz:=hb.size
   have h1:=hrow.lt
   have HW:=HP.out k hlt wr hb
   have HV:Hid (Calls Tryz.prog m (#[.int .i64 (k:Nat)]++cap) wr fun e w'=>e=.returned (.tuple #[.int .i64 (a k:Nat),.int .i64 (v k)])∧Below wr.heap.size wr w'):=HW
   clear HW
   obtain ⟨n,hn⟩:∃n:Nat,n=a k:=⟨_,rfl⟩
   rw[←hn] at HV ha'
   have HNN:Hid (n=a k):=hn
   clear hn
   go_wp2_with fail
   refine HV.out.mono ?_
   rintro e w1 ⟨rfl,hb1⟩
   have hrow1:=hrow.below hb1 h1
   have hc:=hrow1.cell (aB (fill a v k) ha')
   have hf:=hrow1.frozen n
   go_wp2
   go_roundw
   case rel =>
    refine ⟨k+1,by omega,by go_num,?_,?_,?_⟩
    ·exact (hrow0.below hb1 hrow0.lt).setOther _ _ (by simp)
    ·have:=hrow1.set n (.int .i64 (v k))
     rw[ints_set] at this
     show af _ _ _ (ints 26 (upd (fill a v k) (a k) (v k)))
     rw[←HNN.out]
     exact this
    ·exact (hb.trans (hb1.mono hsz)).setCell (by simp) _
   case measure=>simp[intOf];omega
  ·have HK:Hid (k=26):=by rw[Hid];omega
   have h1:=hrow.lt
   go_wp2_with (first
    | refine wpList_load_row rfl 25 _ rfl (w.heap.size+1) rfl 25 (ints 26 (fill a v k)) (0,0) _ hrow Tryz.underlying25 rfl (by rw[ag];exact aj) ?_
    | refine wpList_store_row rfl 25 _ _ rfl w.heap.size (ints 26 (fill a v k)) rfl rfl 25 _ hrow0 (by rw[ag];exact aj) (by simp only[ag]) (aI _ _) ?_)
   refine bodyPost_ret (v:=.agg (ints 26 (fill a v k))) (results_cell_row rfl _ _ w.heap.size 25 _ (0,0) _ rfl (hrow0.row _) Tryz.underlying25 rfl (by rw[ag];exact aj)) rfl ⟨by rw[HK.out],Below.setRow hb _ (Nat.le_refl _) _⟩
theorem s8 (a:Nat→Nat) (v:Nat→Int) (hi:∀i j,i<26→j<26→a i=a j→i=j):∀k,k≤26→∀i,i<k→fill a v k (a i)=v i
 | 0,_,i,h=>by omega
 | k+1,hk,i,h=>by
  show upd (fill a v k) (a k) (v k) (a i)=v i
  by_cases e:i=k
  ·subst e;simp
  ·rw[cj _ _ (fun e2=>e (hi i k (by omega) (by omega) e2))]
   exact s8 a v hi k (by omega) i (by omega)
theorem zl (v:Nat→Int):ints 26 (fill (fun i=>i) v 26)=ints 26 v:=bO fun j hj=>s8 (fun i=>i) v (fun _ _ _ _ e=>e) 26 (Nat.le_refl _) j hj
theorem Ae (i:Int) (w:World):Calls Tryz.prog 94 #[.int .i64 i] w fun e w'=>e=.returned (.tuple #[.int .i64 i,.int .i64 i])∧w=w':=by
 go_enter Tryz.func94,Tryz.ntmps94
 go_wp2
 go_ret2
 exact ⟨rfl,rfl⟩
theorem pZ (w:World):Calls Tryz.prog 57 #[] w fun e w'=>e=.returned (.agg (ints 26 (Pm.up fun i=>i)))∧Below w.heap.size w w':=by
 go_enter Tryz.func57,Tryz.ntmps57
 go_wp2_with fail
 rw[kP]
 refine (kI 94 #[] (fun i=>i) (Pm.up fun i=>i) (fun _ h=>h) _ (by intro args W;go_simp) (fun i hi W _=>(Ae i W).mono ?_)).mono ?_
 ·rintro e w' ⟨rfl,rfl⟩
  exact ⟨rfl,Below.refl _ _⟩
 ·rintro e w1 ⟨rfl,hb1⟩
  rw[zl]
  have hrow:=(af.new w 25 (ints 26 fun _=>0)).below hb1 (by simp)
  go_wp2_with (refine wpList_store_row rfl 25 _ _ rfl w.heap.size (ints 26 (Pm.up fun i=>i)) rfl rfl 25 _ hrow (by rw[ag];exact aj) (by simp only[ag]) (aI _ _) ?_)
  exact bodyPost_ret (v:=.agg (ints 26 (Pm.up fun i=>i))) (results_cell_row rfl _ _ w.heap.size 25 _ (0,0) _ rfl (hrow.row _) Tryz.underlying25 rfl (by rw[ag];exact aj)) rfl ⟨rfl,Below.setRow (((Below.refl _ _).alloc (Nat.le_refl _) _).trans (hb1.mono (by simp))) _ (Nat.le_refl _) _⟩
end
section
open Go.RowKit PK
theorem iU (fs:Nat→Nat→Int) (n:Nat) (hn:n≤2) (b:Nat) (w:World) (hbw:b<w.heap.size) (hr:∀k,k<n→w.rangeAt b (k*26) (ints 26 (fs k)).toList) :
  Calls Tryz.prog 140 #[.slice (some ⟨b,0,none⟩) n n] w fun e w'=>e=.returned (.int .i64 (Pm.bP fs n))∧Below w.heap.size w w':=by
 have HR:Hid (∀k,k<n→w.rangeAt b (k*26) (ints 26 (fs k)).toList):=hr
 clear hr
 go_enter Tryz.func140,Tryz.ntmps140
 go_wp2
 go_loopw [8] (fun i W=>∃k:Nat,k≤n∧i=.int .i64 k∧Hid (Pm.bP fs k=0)∧Below w.heap.size w W) (fun i _=>(n-intOf i).toNat)
 case atStart=>exact ⟨0,by omega,rfl,rfl,Below.refl _ _⟩
 case round =>
  obtain ⟨k,hk,rfl,HN,hb⟩:=hrel
  have hsz:=hb.size
  by_cases hlt:k<n
  ·have HC:Hid (wr.rangeAt b (k*26) (ints 26 (fs k)).toList):=Below.rangeAt hb (HR.out k hlt) hbw
   have hX:Pm.wrong (fs k)=0∨(Pm.wrong (fs k) != 0)=true:=by by_cases e:Pm.wrong (fs k)=0 <;> simp[e]
   obtain ⟨x,hx⟩:∃x,x=Pm.wrong (fs k):=⟨_,rfl⟩
   rw[←hx] at hX
   have HX:Hid (x=Pm.wrong (fs k)):=hx
   clear hx
   have hcall:∀W:World,Calls Tryz.prog 90 #[.agg (ints 26 (fs k))] W fun e w'=>e=.returned (.int .i64 x)∧Below W.heap.size W w':=fun W=>by rw[HX.out];exact mK (fs k) W
   have HL:Hid (∀W:World,Calls Tryz.prog 90 #[.agg (ints 26 (fs k))] W fun e w'=>e=.returned (.int .i64 x)∧Below W.heap.size W w'):=hcall
   clear hcall
   rcases hX with rfl | hX
   ·go_wp2_with (first
     | refine wpList_load_mid rfl 25 _ rfl b (k*26) rfl (ints 26 (fs k)).toList _ HC.out Tryz.underlying25 rfl (by rw[Array.length_toList,ag];exact aj) ?_
     | (refine wpList_store_row rfl 25 _ _ rfl wr.heap.size (ints 26 (fs k)) rfl rfl 25 _ (af.new wr _ _) (by rw[ag];exact aj) (by rw[ag];rfl) (aI _ _) ?_;rw[World.setRow_alloc_new])
     | refine wpList_load_row rfl 25 _ rfl wr.heap.size rfl 25 (ints 26 (fs k)) (0,0) _ (af.new wr _ _) Tryz.underlying25 rfl (by rw[ag];exact aj) ?_
     | (go_at_call 90;refine (HL.out _).mono ?_;rintro e w1 ⟨rfl,hb1⟩))
    go_roundw
    case rel=>exact ⟨k+1,by omega,by go_num,by rw[Hid,Pm.dV fs k HN.out];exact HX.out.symm,(hb.alloc hsz _).trans (hb1.mono (by simp;omega))⟩
    case measure=>simp[intOf];omega
   ·go_wp2_with (first
     | refine wpList_load_mid rfl 25 _ rfl b (k*26) rfl (ints 26 (fs k)).toList _ HC.out Tryz.underlying25 rfl (by rw[Array.length_toList,ag];exact aj) ?_
     | (refine wpList_store_row rfl 25 _ _ rfl wr.heap.size (ints 26 (fs k)) rfl rfl 25 _ (af.new wr _ _) (by rw[ag];exact aj) (by rw[ag];rfl) (aI _ _) ?_;rw[World.setRow_alloc_new])
     | refine wpList_load_row rfl 25 _ rfl wr.heap.size rfl 25 (ints 26 (fs k)) (0,0) _ (af.new wr _ _) Tryz.underlying25 rfl (by rw[ag];exact aj) ?_
     | (go_at_call 90;refine (HL.out _).mono ?_;rintro e w1 ⟨rfl,hb1⟩))
    go_ret
    exact ⟨dx (HX.out.trans (Pm.rD fs k n HN.out (by rw[←HX.out];simpa using hX) hlt).symm),(hb.alloc hsz _).trans (hb1.mono (by simp;omega))⟩
  ·have HK:Hid (k=n):=by rw[Hid];omega
   go_wp2
   go_ret
   exact ⟨dx (by rw[←HK.out];exact HN.out.symm),hb⟩
theorem rU:(Tryz.prog.info? 25).map (fun i=>(i.zero,i.size))=some (some (.agg (ints 26 fun _=>0)),26):=by kernel_rfl
theorem A8 (p:Nat→Nat) (hp:Pm.aN p) (v:Nat→Int):ints 26 (fill p v 26)=ints 26 fun j=>v (Pm.inv p j):=bO fun j hj=>by
 have h:=hp.fE j hj
 have:=s8 p v hp.inj 26 (Nat.le_refl _) (Pm.inv p j) h.1
 rw[h.2] at this
 exact this
theorem Au (p:Nat→Nat) (hp:Pm.aN p):ints 26 (fill p (Pm.up fun i=>i) 26)=ints 26 (Pm.up (Pm.inv p)):=A8 p hp _
theorem Jb (p:Nat→Nat) (hp:Pm.aN p):Pm.bP (fun _=>Pm.up p) 1=0:=(Pm.dV (fun _=>Pm.up p) 0 rfl).trans (Pm.lq p hp)
theorem A3 (p:Nat→Nat) (i:Nat) (hi:i<26) (bp:Nat) (w:World) (hrp:af w bp 25 (ints 26 (Pm.up p))) :
  Calls Tryz.prog 141 #[.int .i64 (i:Int),.pointer (some ⟨bp,0,none⟩)] w fun e w'=>e=.returned (.tuple #[.int .i64 (p i:Nat),.int .i64 (i:Int)])∧Below w.heap.size w w':=by
 have hc1:=hrp.cell (aB (Pm.up p) hi)
 simp only[Pm.up] at hc1
 clear hrp
 go_enter Tryz.func141,Tryz.ntmps141
 go_wp2
 go_ret2
 exact ⟨rfl,rfl,rfl,rfl,Nat.le_refl _,fun _ _=>rfl⟩
theorem Gu (p:Nat→Nat) (hp:Pm.aN p) (w:World) :
  Calls Tryz.prog 117 #[.agg (ints 26 (Pm.up p))] w fun e w'=>e=.returned (.tuple #[.agg (ints 26 (Pm.up (Pm.inv p))),.int .i64 0])∧Below w.heap.size w w':=by
 have H0:Hid (Pm.bP (fun _=>Pm.up p) 1=0):=Jb p hp
 have hmf:∀(fn:Fn) (first cap:Array Value) (w:World),(Instr.makeFunc fn first cap).run Tryz.prog w=.ok (.func fn first cap) w:=fun _ _ _ _=>rfl
 go_enter Tryz.func117,Tryz.ntmps117
 go_wp2_with (first
  | refine wpList_load_row rfl 25 _ rfl w.heap.size rfl 25 (ints 26 (Pm.up p)) (0,0) _ ((af.new w _ _).alloc _) Tryz.underlying25 rfl (by rw[ag];exact aj) ?_
  | refine j5 rfl 81 25 _ rfl 26 (Pm.up p) rfl (by decide) Tryz.underlying81 rU (by decide) ?_)
 rw[kP]
 refine (iU (fun _=>Pm.up p) 1 (by decide) _ _ (by simp) (range_one (af.newAt (by simp)))).mono ?_
 rintro e W1 ⟨rfl,hb0⟩
 obtain ⟨r1,r3,hb1,hs1⟩:=JW hb0
 clear hb0
 rw[H0.out]
 go_wp2_with fail
 refine (kI 141 #[.pointer (some ⟨w.heap.size,0,none⟩)] p (Pm.up fun i=>i) hp.lt _ (by intro args W;go_simp) (fun i hi W hW=>A3 p i hi _ W (r1.below hW (by omega)))).mono ?_
 rintro e W2 ⟨rfl,hb2⟩
 rw[Au p hp]
 have hs2:=hb2.size
 have hrow:=r3.below hb2 (by omega)
 go_wp2_with (refine wpList_store_row rfl 25 _ _ rfl (w.heap.size+1) (ints 26 (Pm.up (Pm.inv p))) rfl rfl 25 _ hrow (by rw[ag];exact aj) (by simp only[ag]) (aI _ _) ?_)
 exact bodyPost_ret (v:=.tuple #[.agg (ints 26 (Pm.up (Pm.inv p))),.int .i64 0]) (aG rfl _ _ (w.heap.size+1) 25 _ (0,0) _ _ rfl rfl (hrow.row _) Tryz.underlying25 rfl (by rw[ag];exact aj)) rfl ⟨rfl,Below.setRow (hb1.trans (hb2.mono (by omega))) _ (by omega) _⟩
end
section
open Go.RowKit PK Vg
def nof:Nat→Bool:=fun _=>false
def noz:Nat→Nat:=fun _=>0
theorem gX:(Tryz.prog.info? 151).map (·.size)=some 80:=by kernel_rfl
theorem BN:(Tryz.prog.info? 151).map (·.zero)=some (some (.agg (wlA noz noz nof 0 0))):=by kernel_rfl
theorem Eb (p q:Nat→Nat) (r s:Nat):Tryz.prog.built 151 [(0,.agg (ints 26 (Pm.up p))),(1,.agg (ints 26 (Pm.up q))),(3,.int .i64 (r:Nat)),(4,.int .i64 (s:Nat))]=some (wlA p q nof r s):=by kernel_rfl
section
variable {P:Program}
theorem dS {ops:Array Oper} {rest:List Oper} {op:Oper} {a:Act} {w:World} {Q:Exit→Act→World→Prop} (hgd:op.guard=none) (t:TypeId) (xs:List (Nat × Operand)) (ho:op.op=.build t xs.toArray) (vs:List (Nat × Value)) (hv:xs.map (fun x=>(x.1,a.eval x.2))=vs)
  (cells:Array Value) (hb:P.built t vs=some cells) (h:wpList P ops Q rest (a.put op.dst (.agg cells)) w):wpList P ops Q (op :: rest) a w :=
 wpList_plain hgd fun _ hK=>by
  unfold Oper.wp execOp
  have hm:xs.toArray.map (fun (i,x)=>(i,a.eval x))=vs.toArray:=by rw[←hv];simp
  simp only[ho,Sem.run_bind,hm,run_build w t vs.toArray cells hb,Result.andThen_ok]
  exact hK _ _ h
end
theorem GW {l:List Nat} {k:Nat} (h:k<l.length):upd (fun c=>(l.take k).contains c) (l.getD k 0) true=fun c=>(l.take (k+1)).contains c:=by
 funext c
 rw[List.take_succ_eq_append_getElem h]
 have e:l.getD k 0=l[k]:=by simp[List.getD,h]
 rw[e]
 unfold upd
 by_cases h1:c=l[k]
 ·rw[if_pos h1,eq_comm,List.contains_iff_mem,List.mem_append,List.mem_singleton]
  exact .inr h1
 ·rw[if_neg h1,Bool.eq_iff_iff,List.contains_iff_mem,List.contains_iff_mem,List.mem_append,List.mem_singleton]
  exact ⟨.inl,fun h=>h.resolve_right h1⟩
theorem Js {p b:Nat→Nat} {no:Nat→Bool} {ri at' k:Nat} (hk:k<26):(wlA p b no ri at')[52+k]? = some (.bool (no k)):=by
 unfold wlA
 rw[aR _ (by omega)]
 unfold wcl
 rw[if_neg (by omega),if_neg (by omega),if_pos (by omega),show 52+k-52=k by omega]
structure Ki (w W:World) (u:Nat→Int) (v:Value) (q:Nat) (A:Array Value):Prop where
 par:af W w.heap.size 104 (whl u v)
 res:af W (w.heap.size+1) 151 (wlA noz noz nof 0 0)
 out:af W q 151 A
 lt:w.heap.size+1<q
 below:Below w.heap.size w W
set_option maxRecDepth 100000 in
set_option maxHeartbeats 4000000 in
theorem uQ (p:Nat→Nat) (hp:Pm.aN p) (v:Value) (l:List Nat) (hl:∀k,k ∈ l→k<26) (ri st:Nat) (w:World) (hv:aq w v l.length fun k=>(l.getD k 0:Nat)):Calls Tryz.prog 95 #[.agg (whl (Pm.up p) v),.int .i64 (ri:Nat),.int .i64 (st:Nat)] w fun e w'=>e=.returned (.agg (wlA p (Pm.inv p) (fun c=>l.contains c) ri st))∧Below w.heap.size w w':=by
 have hr:=af.new w 104 (whl (Pm.up p) v)
 have hmid:=yD (hr.alloc (.cells (wlA noz noz nof 0 0) 151))
 have hz80:=cm BN
 have hz26:=cm c6
 have HV:=(show Hid (aq w v l.length fun k=>(l.getD k 0:Nat)) from hv)
 have HL:=(show Hid (∀k,k<l.length→l.getD k 0<26) from fun k hk=>hl _ (by rw[List.getD_eq_getElem?_getD,List.getElem?_eq_getElem hk];exact List.getElem_mem _))
 clear hl hv
 have h1:af ((w.alloc (.cells (whl (Pm.up p) v) 104)).alloc (.cells (wlA noz noz nof 0 0) 151)) w.heap.size 104 (whl (Pm.up p) v):=hr.alloc _
 have h2:af ((w.alloc (.cells (whl (Pm.up p) v) 104)).alloc (.cells (wlA noz noz nof 0 0) 151)) (w.heap.size+1) 151 (wlA noz noz nof 0 0):=by
  have:=af.new (w.alloc (.cells (whl (Pm.up p) v) 104)) 151 (wlA noz noz nof 0 0)
  rw[World.size_alloc] at this
  exact this
 have hb0:Below w.heap.size w ((w.alloc (.cells (whl (Pm.up p) v) 104)).alloc (.cells (wlA noz noz nof 0 0) 151)):=((Below.refl _ w).alloc (Nat.le_refl _) _).alloc (by simp) _
 go_enter Tryz.func95,Tryz.ntmps95
 go_upto_region 1 with fail
 clear hr
 generalize (w.alloc (.cells (whl (Pm.up p) v) 104)).alloc (.cells (wlA noz noz nof 0 0) 151)=W0 at *
 go_wp2_with (first | refine aM rfl 25 _ rfl w.heap.size 0 rfl (ints 26 (Pm.up p)) _ hmid Tryz.underlying25 rfl (by rw[ag];exact aj) ?_)
 refine (Gu p hp _).mono ?_
 rintro e V ⟨rfl,hb⟩
 have k1:=h1.below hb h1.lt
 have k2:=h2.below hb h2.lt
 have kb:=hb0.trans (hb.mono hb0.size)
 have kl:=k2.lt
 clear hb h1 h2 hb0 hmid
 go_upto_region 2 with (first | refine wpList_store_row rfl 25 _ _ rfl V.heap.size (ints 26 (Pm.up (Pm.inv p))) rfl rfl 25 _ (af.new V _ _) (by rw[ag];exact aj) (by simp only[ag]) (aI _ _) ?_)
 have j1:=(k1.alloc (.cells (ints 26 fun _=>0) 25)).aX V.heap.size (ints 26 (Pm.up (Pm.inv p))) (by omega)
 have j2:=(k2.alloc (.cells (ints 26 fun _=>0) 25)).aX V.heap.size (ints 26 (Pm.up (Pm.inv p))) (by omega)
 have j3:=(af.new V 25 (ints 26 fun _=>0)).row (ints 26 (Pm.up (Pm.inv p)))
 have jb:=Below.setRow (kb.alloc kb.size (.cells (ints 26 fun _=>0) 25)) V.heap.size kb.size (ints 26 (Pm.up (Pm.inv p)))
 generalize (V.alloc (.cells (ints 26 fun _=>0) 25)).setRow V.heap.size (ints 26 (Pm.up (Pm.inv p)))=U at *
 obtain ⟨q7,hq7⟩:∃q,q=V.heap.size:=⟨_,rfl⟩
 rw[←hq7] at j3 kl ⊢
 clear hq7 k1 k2 kb hz26
 have hmid:=yD j1
 have jl:=j3.lt
 go_upto_region 3 with (first | refine dS rfl 151 [(0,.tmp 19),(1,.tmp 20),(3,.tmp 21),(4,.tmp 22)] rfl [(0,.agg (ints 26 (Pm.up p))),(1,.agg (ints 26 (Pm.up (Pm.inv p)))),(3,.int .i64 (ri:Nat)),(4,.int .i64 (st:Nat))] rfl _ (Eb p (Pm.inv p) ri st) ?_ | refine aM rfl 25 _ rfl w.heap.size 0 rfl (ints 26 (Pm.up p)) _ hmid Tryz.underlying25 rfl (by rw[ag];exact aj) ?_ | refine wpList_load_row rfl 25 _ rfl q7 rfl 25 (ints 26 (Pm.up (Pm.inv p))) (0,0) _ j3 Tryz.underlying25 rfl (by rw[ag];exact aj) ?_ | refine wpList_store_row rfl 151 _ _ rfl U.heap.size (wlA p (Pm.inv p) nof ri st) rfl rfl 151 _ (af.new U _ _) (by rw[gW];exact gX) (by simp only[gW]) (uu _ _ _ _ _) ?_)
 have hg:Ki w ((U.alloc (.cells (wlA noz noz nof 0 0) 151)).setRow U.heap.size (wlA p (Pm.inv p) nof ri st)) (Pm.up p) v U.heap.size (wlA p (Pm.inv p) nof ri st) :=
  ⟨(j1.alloc _).aX _ _ (by omega),(j2.alloc _).aX _ _ (by omega),(af.new U _ _).row _,by omega,Below.setRow (jb.alloc jb.size _) _ jb.size _⟩
 generalize (U.alloc (.cells (wlA noz noz nof 0 0) 151)).setRow U.heap.size (wlA p (Pm.inv p) nof ri st)=X at *
 obtain ⟨q,hq⟩:∃q,q=U.heap.size:=⟨_,rfl⟩
 rw[←hq] at hg ⊢
 clear hq j1 j2 j3 jb hmid hz80 kl jl
 have hvl:=hg.par.cell (gN (Pm.up p) v)
 obtain ⟨av,cv,rfl,hmv,hcv⟩:=HV.out
 have HC:=(show Hid (∀c,c<l.length→∃b o,av=some ⟨b,o,none⟩∧w.cell? ⟨b,o+c,none⟩=some (.int .i64 (l.getD c 0:Nat))) from hcv)
 unfold maxLen at hmv
 clear HV hcv
 go_wp2_with fail
 clear hvl
 go_loopw [27] (fun i W=>∃k:Nat,k≤l.length∧i=.int .i64 (k:Nat)∧Ki w W (Pm.up p) (.slice av l.length cv) q (wlA p (Pm.inv p) (fun c=>(l.take k).contains c) ri st)) (fun i _=>((l.length:Int)-intOf i).toNat)
 case atStart=>exact ⟨0,by omega,rfl,hg⟩
 case round =>
  clear hg
  obtain ⟨k,hk,rfl,hg⟩:=hrel
  by_cases hlt:k<l.length
  ·have HLT:Hid (k<l.length):=hlt
   obtain ⟨b,o,rfl,hc0⟩:=HC.out k hlt
   have hc1:=(hg.below.cell (p:=⟨b,o+k,none⟩) (aA hc0)).trans hc0
   have hx:=HL.out k hlt
   have HT:=(show Hid _ from GW hlt)
   generalize l.getD k 0=x at *
   have hck:=hg.out.cell (Js (p:=p) (b:=Pm.inv p) (no:=fun c=>(l.take k).contains c) (ri:=ri) (at':=st) hx)
   have hfk:=hg.out.frozen (52+x)
   have HNX:Hid (Ki w (wr.setCell ⟨q,52+x,none⟩ (.bool true)) (Pm.up p) (.slice (some ⟨b,o,none⟩) l.length cv) q (wlA p (Pm.inv p) (fun c=>(l.take (k+1)).contains c) ri st)):=by
    have hlq:=hg.lt
    refine ⟨hg.par.setOther _ _ (by show w.heap.size≠q;omega),hg.res.setOther _ _ (by show w.heap.size+1≠q;omega),?_,hg.lt,hg.below.setCell (p:=⟨q,52+x,none⟩) (by show w.heap.size≤q;omega) _⟩
    have:=hg.out.set (52+x) (.bool true)
    rw[JG _ _ _ _ _ hx,HT.out] at this
    exact this
   clear hg hc0 HC
   go_wp2
   go_roundw
   case rel=>exact ⟨k+1,HLT.out,by go_num,HNX.out⟩
   case measure=>have:=HLT.out;simp[intOf];omega
  ·obtain rfl:k=l.length:=by omega
   have hnl:¬((l.length:Nat):Int)<((l.length:Nat):Int):=by omega
   have ho:=hg.out
   rw[List.take_length] at ho
   have hres:=hg.res
   have hbe:=hg.below
   obtain ⟨AA,hAA⟩:∃AA,AA=wlA p (Pm.inv p) (fun c=>l.contains c) ri st:=⟨_,rfl⟩
   have hsz:AA.size=80:=by rw[hAA,gW]
   have hone:AA.all (·.oneCell')=true:=by rw[hAA];exact uu _ _ _ _ _
   rw[←hAA] at ho
   have HAA:=(show Hid _ from hAA)
   clear hg HC hAA
   go_wp2_with (first | refine wpList_load_row rfl 151 _ rfl q rfl 151 AA (0,0) _ ho Tryz.underlying151 rfl (by rw[hsz];exact gX) ?_ | refine wpList_store_row rfl 151 _ _ rfl (w.heap.size+1) AA rfl rfl 151 _ hres (by rw[hsz];exact gX) (by simp only[gW,hsz]) hone ?_)
   exact bodyPost_ret (v:=.agg AA) (ie Tryz.results95 _ _ _ _ _ _ _ rfl (hres.row _) Tryz.underlying151 rfl (by rw[hsz];exact gX)) rfl ⟨by rw[HAA.out];simp only[List.contains_eq_mem],Below.setRow hbe _ (Nat.le_succ _) _⟩
end
section
open Go.RowKit PK
section
variable {P:Program} {ops:Array Oper} {Q:Exit→Act→World→Prop} {md:Region.Mode} {S:World→Prop}
end
theorem je {w w':World} {B:Nat} {T:TypeId} {s n:Nat} {v:Value} {l:List Value} (h:w.ownsRow B T s v n l) (hb:Below w.heap.size w w'):w'.ownsRow B T s v n l:=by
 obtain ⟨h1,h2⟩:=h
 refine ⟨h1,?_⟩
 rcases h2 with h2 | ⟨g,cap,cur,e,hB,hg,h3⟩
 ·exact .inl h2
 ·exact .inr ⟨g,cap,cur,e,hB,(hb.block g (Array.getElem?_eq_some_iff.1 hg).1).trans hg,h3⟩
theorem Eh {w:World} {B:Nat} {T:TypeId} {s n:Nat} {v:Value} {l:List Value} (h:w.ownsRow B T s v n l):w.drew.ownsRow B T s v n l:=h
end
section
open Go.RowKit PK
def three (f g h:Nat→Int):Nat→Int:=fun i=>if i<26 then f i else if i<52 then g (i-26) else h (i-52)
section
variable {P:Program}
end
section
variable {w W W':World} {a b c:Value} {rf pl:Nat→Int}
end
section
variable {w W W':World} {a b c v:Value} {rf pl:Nat→Int} {m:Nat} {P:Nat→Nat→Nat}
end
theorem AN {n:Nat} {f:Nat→Int} {u:Value} (h:u ∈ (ints n f).toList):u.oneCell'=true:=by
 have:=aI n f
 rw[Array.all_eq_true_iff_forall_mem] at this
 exact this u (by simpa using h)
end
section
open Go.RowKit PK Vg
structure iK (w W:World) (a b c:Value) (rf pl:Nat→Int):Prop where
 mg:cO w W a b c rf pl
 res:af W (w.heap.size+1) 37 #[.int .i64 0,.int .i64 0]
theorem iK.new (w:World) (a b c:Value) (rf pl:Nat→Int):iK w ((w.alloc (.cells (mac a b c rf pl) 27)).alloc (.cells #[.int .i64 0,.int .i64 0] 37)) a b c rf pl:=by
 have h:=af.new (w.alloc (.cells (mac a b c rf pl) 27)) 37 #[.int .i64 0,.int .i64 0]
 rw[World.size_alloc] at h
 exact ⟨(cO.new w a b c rf pl).alloc _,h⟩
section
variable {w W W':World} {a b c:Value} {rf pl:Nat→Int}
theorem iK.step (h:iK w W a b c rf pl) (hb:Below W.heap.size W W'):iK w W' a b c rf pl:=⟨h.mg.step hb,h.res.below hb h.res.lt⟩
theorem iK.alloc (h:iK w W a b c rf pl) (o:Obj):iK w (W.alloc o) a b c rf pl:=h.step ((Below.refl _ _).alloc (Nat.le_refl _) o)
theorem iK.done (h:iK w W a b c rf pl) (x y:Value):Below w.heap.size w ((W.setCell ⟨w.heap.size+1,0,none⟩ x).setCell ⟨w.heap.size+1,1,none⟩ y):=(h.mg.below.setCell (p:=⟨w.heap.size+1,0,none⟩) (by simp) _).setCell (p:=⟨w.heap.size+1,1,none⟩) (by simp) _
theorem iK.load (h:iK w W a b c rf pl):W.heap[w.heap.size]? = some (.cells (mac a b c rf pl) 27 (0,0)):=h.mg.row
end
theorem zB (M:Om.Ma):∀(l:List UInt8) (at':Nat→Nat) (x:UInt8),Om.wr M at' (l++[x])=Om.wr M at' l++[ltr (Om.now M (Om.steps M at' (l.length+1)) (Vg.num x))]
 | [],_,_=>rfl
 | a :: l,at',x=>by
  show ltr _ :: Om.wr M (Om.step M at') (l++[x])=ltr _ :: (Om.wr M (Om.step M at') l++_)
  rw[zB M l (Om.step M at') x,Om.pq]
  rfl
theorem FU {M:Om.Ma} {t:List UInt8} {k:Nat} (hk:k<t.length) (at':Nat→Nat):Om.wr M at' (t.take (k+1))=Om.wr M at' (t.take k)++[ltr (Om.now M (Om.steps M at' (k+1)) (Vg.num (t.getD k 0)))]:=by
 rw[List.take_succ_eq_append_getElem hk,zB,List.length_take,Nat.min_eq_left (by omega),getD_some hk]
theorem Ek {w w':World} {B:Nat} {v:Value} {l:List UInt8} (h:Kit.Dp w B 5 v l) (hb:Below w.heap.size w w'):Kit.Dp w' B 5 v l:=je h hb
def rwE (g:Gm) (t:List UInt8):Int:=if gE g≠0 then gE g else ckE t
def Bx (g:Gm) (t:List UInt8):Int:=if gE g≠0 then 0 else oG t
end
section
open Go.RowKit PK Vg
def fO (g:Gm):Om.Ma:=⟨g.n,fun r c=>(g.wi r c).toNat,fun r=>(List.range (g.nl r)).map fun k=>(g.no r k).toNat,fun i=>(g.ri i).toNat,fun i=>(g.st i).toNat,fun c=>(g.rf c).toNat,fun c=>(g.pl c).toNat⟩
theorem kr {f:Nat→Int} (h:Pm.wrong f=0):Pm.aN (fun c=>(f c).toNat)∧∀i,i<26→f i=(((f i).toNat:Nat):Int):=by
 obtain ⟨p,hp,e⟩:=(Pm.kz f).1 h
 have e2:∀i,i<26→(f i).toNat=p i:=fun i hi=>by rw[e i hi];rfl
 refine ⟨⟨fun i hi=>by show (f i).toNat<26;rw[e2 i hi];exact hp.lt i hi,fun i j hi hj h=>?_⟩,fun i hi=>by rw[e i hi];rfl⟩
 have h':(f i).toNat=(f j).toNat:=h
 rw[e2 i hi,e2 j hj] at h'
 exact hp.inj i j hi hj h'
theorem lW {g:Gm} (h:gE g=0):Om.Ok (fO g)∧∀W v,cE W v g→cE W v (gOf (fO g)):=by
 obtain ⟨⟨h1,h2⟩,h3,⟨h4,h5⟩,⟨h6,h7⟩,⟨h8,h9⟩,h10,h11⟩:=zD h
 have hw:=vB g g.n h3
 rw[lX] at h5 h7
 rw[qG] at h9 h11
 obtain ⟨hrf,erf⟩:=kr h8
 obtain ⟨hpl,epl⟩:=kr h10
 have hwi:∀r,r<g.n→Pm.aN (fun c=>(g.wi r c).toNat)∧∀i,i<26→g.wi r i=(((g.wi r i).toNat:Nat):Int):=fun r hr=>kr (hw r hr).1
 have hno:∀r,r<g.n→∀k,k<g.nl r→0≤g.no r k∧g.no r k≤25:=fun r hr=>(lX _ _).1 (hw r hr).2
 refine ⟨⟨h1,h2,fun i hi=>(hwi i hi).1,fun i hi k hk=>?_,fun i hi=>?_,fun i hi=>?_,hrf,fun c hc=>?_,fun c hc=>?_,hpl,fun c hc=>?_⟩,?_⟩
 ·obtain ⟨q,hq,rfl⟩:=List.mem_map.1 hk
  have:=hno i hi q (by simpa using hq)
  omega
 ·have:=h5 i (by rw[h4];exact hi);show (g.ri i).toNat<26;omega
 ·have:=h7 i (by rw[h6];exact hi);show (g.st i).toNat<26;omega
 ·have:=(h9 c hc).1
  show (g.rf (g.rf c).toNat).toNat=c
  omega
 ·have:=(h9 c hc).2 rfl
  have e:=erf c hc
  show (g.rf c).toNat≠c
  omega
 ·have:=(h11 c hc).1
  show (g.pl (g.pl c).toNat).toNat=c
  omega
 ·rintro W v ⟨a,b,c,e,k1,k2,k3⟩
  refine ⟨a,b,c,by rw[e,FN erf epl];rfl,?_,?_,?_⟩
  ·obtain ⟨a',cap,R,q1,q2,q3,q4⟩:=k1
   refine ⟨a',cap,R,q1,q2,fun r hr=>?_,fun r hr=>?_⟩
   ·obtain ⟨b',o',e1,e2⟩:=q3 r hr
    rw[Fy (hwi r hr).2] at e2
    exact ⟨b',o',e1,e2⟩
   ·have:=q4 r hr
    show aq W (R r) ((List.range (g.nl r)).map fun k=>(g.no r k).toNat).length _
    rw[List.length_map,List.length_range]
    refine qv this fun k hk=>?_
    have h0:=hno r hr k hk
    show g.no r k=(((List.range (g.nl r)).map fun k=>(g.no r k).toNat).getD k 0:Nat)
    simp[List.getD_eq_getElem?_getD,hk]
    omega
  ·rw[h4] at k2
   exact qv k2 fun i hi=>by
    have:=h5 i (by rw[h4];exact hi)
    show g.ri i=((g.ri i).toNat:Int)
    omega
  ·rw[h6] at k3
   exact qv k3 fun i hi=>by
    have:=h7 i (by rw[h6];exact hi)
    show g.st i=((g.st i).toNat:Int)
    omega
def rwS (g:Gm) (t:List UInt8):List UInt8:=if rwE g t≠0 then [] else Om.wr (fO g) (fO g).st t
end
section
open Go.RowKit PK Vg
structure GJ (w W:World) (a b c:Value) (rf pl:Nat→Int) (q:Nat) (x y:Value):Prop where
 mg:cO w W a b c rf pl
 f:af W q 37 #[x,y]
 ne:w.heap.size<q
section
variable {w W W':World} {a b c:Value} {rf pl:Nat→Int} {q:Nat} {x y:Value}
theorem GJ.new (h:cO w W a b c rf pl) (x y:Value):GJ w (W.alloc (.cells #[x,y] 37)) a b c rf pl W.heap.size x y:=⟨h.alloc _,af.new W _ _,h.lt⟩
end
end
section
open Go.RowKit PK Vg
def cx (c:Array Value):Nat→List Value→Array Value
 | _,[]=>c
 | o,v :: l=>cx (c.setIfInBounds o v) (o+1) l
theorem dK {T:TypeId} {g:Nat}:∀{l:List Value} {o:Nat} {w:World} {c:Array Value},af w g T c→af (w.setCells g o l) g T (cx c o l)
 | [],_,_,_,h=>h
 | v :: l,o,_,_,h=>dK (l:=l) (h.set o v)
theorem iM:∀(l:List Value) (o:Nat) (c:Array Value),(cx c o l).size=c.size
 | [],_,_=>rfl
 | v :: l,o,c=>by show (cx (c.setIfInBounds o v) (o+1) l).size=_;rw[iM];simp
theorem cY:∀(l:List Value) (o:Nat) (c:Array Value) (i:Nat),o+l.length≤c.size→(cx c o l)[i]? = if o≤i∧i<o+l.length then l[i-o]? else c[i]?
 | [],o,c,i,_=>by show c[i]? = _;rw[if_neg (by rintro ⟨h1,h2⟩;simp at h2;omega)]
 | v :: l,o,c,i,h=>by
  show (cx (c.setIfInBounds o v) (o+1) l)[i]? = _
  have h':o+1+l.length≤c.size:=by simp at h;omega
  rw[cY l (o+1) (c.setIfInBounds o v) i (by simpa using h')]
  by_cases e:i=o
  ·subst e
   rw[if_neg (by omega),if_pos ⟨by omega,by simp⟩,Nat.sub_self]
   have hi:i<c.size:=by simp at h;omega
   simp[hi]
  ·by_cases e2:o+1≤i∧i<o+1+l.length
   ·rw[if_pos e2,if_pos ⟨by omega,by simp;omega⟩]
    rw[show i-o=(i-(o+1))+1 by omega]
    simp
   ·rw[if_neg e2,if_neg (by simp;omega),Array.getElem?_setIfInBounds_ne (by omega)]
theorem mI (a b c:Value) (rf pl pl2:Nat→Int):cx (mac a b c rf pl) 29 (ints 26 pl2).toList=mac a b c rf pl2:=by
 apply Array.ext_getElem?
 intro i
 have hl:(ints 26 pl2).toList.length=26:=by rw[Array.length_toList,ag]
 rw[cY _ _ _ _ (by rw[hl,aE];decide),hl]
 by_cases h:29≤i∧i<29+26
 ·rw[if_pos h,Array.getElem?_toList,aB _ (by omega)]
  obtain ⟨j,rfl⟩:∃j,i=29+j:=⟨i-29,by omega⟩
  rw[qP _ _ _ _ _ (by omega),show 29+j-29=j by omega]
 ·rw[if_neg h]
  by_cases h2:i<29
  ·have key:∀q:Nat→Int,(mac a b c rf q)[i]? = (#[a,b,c]++ints 26 rf)[i]?:=fun q=>by
    unfold mac
    rw[Array.getElem?_append,if_pos (by simp[ag];omega)]
   rw[key,key]
  ·rw[Array.getElem?_eq_none (by rw[aE];omega),Array.getElem?_eq_none (by rw[aE];omega)]
theorem cR {B g:Nat} (hg:B≤g):∀{l:List Value} {o:Nat} {w W:World},Below B w W→Below B w (W.setCells g o l)
 | [],_,_,_,h=>h
 | v :: l,o,_,_,h=>cR hg (l:=l) (h.setCell (p:=⟨g,o,none⟩) hg v)
theorem bu {T:TypeId} {g q:Nat} (hne:q≠g):∀{l:List Value} {o:Nat} {w:World} {c:Array Value},af w q T c→af (w.setCells g o l) q T c
 | [],_,_,_,h=>h
 | v :: l,o,_,_,h=>bu hne (l:=l) (h.setOther ⟨g,o,none⟩ v hne)
theorem mM {w:World} {g:Nat} {T:TypeId} {c:Array Value} (h:af w g T c) {o n:Nat} (hn:o+n≤c.size):w.there g o n:=fun j hj=>by
 refine ⟨?_,h.frozen _⟩
 rw[h.cell (i:=o+j) (v:=c[o+j]'(by omega)) (by simp)]
 rfl
end
end Go.Proofs.YtgacaecjinlhiaaGreatDoor
