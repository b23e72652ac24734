/-
  Several texts, joined: HKit, RgK, PMath, PWrong, PBuild, OPm.
-/
import Derived.Test.YtpdemelchhkfaaaJn15
import Derived.Test.YtpdemelchhkfaaaChecked
import Derived.WalkSpells
import Derived.WalkSmall
import Derived.Deep.OwnRows
import Derived.Lib.OthersKept
import Derived.Lib.SmallJoins
import Derived.Deep.QuietTactic
import Derived.BigQuiet
import Derived.Laws.EntriesVeiled
import Derived.Laws.AppendOwnNone
import Derived.RegionTactic
import Derived.Deep.RegionHeld3
import Derived.OrdersHeld
import Derived.Maps.AppendAt
import Derived.Deep.DeepCutAuto
import Derived.WalkKit
/-
  Laws of no program: slices of numbers and of such slices, read in a world; what is wrong with a matrix.
-/
namespace Go.Proofs.Ytpdemelchhkfaaa.PK
open Go.RowKit

def NumsAt (w:World) (v:Value) (n:Nat) (f:Nat→Int):Prop :=
 ∃(a:Option Addr) (cap:Nat),v=.slice a n cap∧n≤maxLen∧∀c,c<n→∃b o,a=some ⟨b,o,none⟩∧w.cell? ⟨b,o+c,none⟩=some (.int .i64 (f c))
theorem cell_block {w:World} {a:Addr} {v:Value} (h:w.cell? a=some v):a.block<w.heap.size:=World.block_lt_of_cell? _ _ h
theorem NumsAt.below {w w':World} {v:Value} {n:Nat} {f:Nat→Int} (h:NumsAt w v n f) (hb:Below w.heap.size w w'):NumsAt w' v n f:=by
 obtain ⟨a,cap,h1,h2,h3⟩:=h
 refine ⟨a,cap,h1,h2,fun c hc=>?_⟩
 obtain ⟨b,o,e,hcell⟩:=h3 c hc
 exact ⟨b,o,e,(hb.cell (p:=⟨b,o+c,none⟩) (cell_block hcell)).trans hcell⟩
theorem NumsAt.alloc {w:World} {v:Value} {n:Nat} {f:Nat→Int} (h:NumsAt w v n f) (o:Obj):NumsAt (w.alloc o) v n f:=h.below ((Below.refl _ _).alloc (Nat.le_refl _) _)
theorem NumsAt.drew {w:World} {v:Value} {n:Nat} {f:Nat→Int} (h:NumsAt w v n f):NumsAt w.drew v n f:=h
theorem NumsAt.congr {w:World} {v:Value} {n:Nat} {f g:Nat→Int} (h:NumsAt w v n f) (e:∀c,c<n→f c=g c):NumsAt w v n g:=by
 obtain ⟨a,cap,h1,h2,h3⟩:=h
 refine ⟨a,cap,h1,h2,fun c hc=>?_⟩
 rw[←e c hc]
 exact h3 c hc
theorem NumsAt.form {w:World} {v:Value} {n:Nat} {f:Nat→Int} (h:NumsAt w v n f) (hn:0<n):∃b o cap,v=.slice (some ⟨b,o,none⟩) n cap∧n≤maxLen∧∀c,c<n→w.cell? ⟨b,o+c,none⟩=some (.int .i64 (f c)):=by
 obtain ⟨a,cap,h1,h2,h3⟩:=h
 obtain ⟨b,o,e,_⟩:=h3 0 hn
 subst e
 refine ⟨b,o,cap,h1,h2,fun c hc=>?_⟩
 obtain ⟨b',o',e',hcell⟩:=h3 c hc
 cases e'
 exact hcell
theorem NumsAt.len {w:World} {v:Value} {n:Nat} {f:Nat→Int} (h:NumsAt w v n f):∃a cap,v=.slice a n cap∧n≤maxLen:=by
 obtain ⟨a,cap,h1,h2,_⟩:=h
 exact ⟨a,cap,h1,h2⟩
end Go.Proofs.Ytpdemelchhkfaaa.PK

/-
  Laws of no program, for registers: numbers that a call owns, rows, regions.
-/
namespace Go.Proofs.Ytpdemelchhkfaaa
open Go.RowKit PK

section
variable {P:Program} {ops:Array Oper} {Q:Exit→Act→World→Prop} {md:Region.Mode} {S:World→Prop}
theorem vtake (i d:Nat) (v:Value) {oi:Oper} {fuel:Nat} {listed:Array Bool} {tm:Array Value} {df:List Deferred} {w:World} (hi:ops[i]? = some oi) (hd:oi.dst=some d)
  (hs:Region.noSelect ops=true) (hf:Region.free md ops listed i=true) (hr:(Region.ready md ops listed).contains i=true)
  (hQ:∀c a a' w,Q (.panic c) a' w→Q (.panic c) a w) (hw:Region.wanted oi (yielded ops tm)=true) (hrun:∀W,S W→(execOp (Act.eval ⟨tm,df⟩) oi).run P W=.ok (.value v) W) (hS:S w)
  (h:wpAnyH P md ops Q S fuel (listed.setIfInBounds i true) ⟨tm.setIfInBounds d v,df⟩ w):wpAnyH P md ops Q S (fuel+1) listed ⟨tm,df⟩ w:=by
 refine wpAnyH_take (i:=i) (oi:=oi) (v:=v) hi hs hf hr (fun c a w=>hQ c a _ w) (Or.inl ⟨hw,fun W hW=>hrun W hW⟩) hS ?_
 rw[hd]
 exact h
end
theorem x_info_parts {P:Program} {e:TypeId} {z:Value} {s b:Nat} (h:(P.info? e).map (fun i=>(i.zero,i.size,i.bytes))=some (some z,s,b)):∃i,P.info? e=some i∧i.zero=some z∧i.size=s∧i.bytes=b:=by
 obtain ⟨i,hi,hzz⟩:=Option.map_eq_some_iff.1 h
 simp only[Prod.mk.injEq] at hzz
 exact ⟨i,hi,hzz.1,hzz.2.1,hzz.2.2⟩
theorem o_zero {P:Program} {t:TypeId} {z:Value} (h:(P.info? t).map (·.zero)=some (some z)) (w:World):(zeroValue t).run P w=.ok z w:=by
 cases hi:P.info? t with
 | none=>simp[hi] at h
 | some i =>
  have h2:i.zero=some z:=by simpa [hi] using h
  simp[zeroValue,typeInfo,hi,h2]
theorem g_info_int:(Try.prog.info? 3).map (fun i=>(i.zero,i.size,i.bytes))=some (some (.int .i64 0),1,8):=by kernel_rfl
end Go.Proofs.Ytpdemelchhkfaaa

/-
  Plain mathematics of no program: what is wrong with 26 numbers.
-/
namespace Go.Proofs.Ytpdemelchhkfaaa.Pm

def bad (f:Nat→Int) (i:Nat):Int:=if f i<0∨26≤f i then 3 else if (List.range i).any (fun j=>f j==f i) then 8 else 0
def wrongN (f:Nat→Int):Nat→Int
 | 0=>0
 | n+1=>if wrongN f n≠0 then wrongN f n else bad f n
def wrong (f:Nat→Int):Int:=wrongN f 26
theorem wrongN_keep (f : Nat → Int) (k n : Nat) (h : wrongN f k ≠ 0) (hn : k ≤ n) : wrongN f n = wrongN f k := by
  induction n with
  | zero => have : k = 0 := by omega
            subst this; rfl
  | succ n ih =>
    by_cases e : k = n + 1
    · rw [e]
    · have := ih (by omega)
      show (if wrongN f n ≠ 0 then wrongN f n else bad f n) = _
      rw [this, if_pos h]
theorem wrongN_succ (f:Nat→Int) (k:Nat) (h:wrongN f k=0):wrongN f (k+1)=bad f k:=by
 show (if wrongN f k≠0 then wrongN f k else bad f k)=_
 rw[if_neg (by simp[h])]
theorem wrong_stop (f:Nat→Int) (k:Nat) (h:wrongN f k=0) (hb:bad f k≠0) (hk:k<26):wrong f=bad f k:=by
 have h1:=wrongN_succ f k h
 have:=wrongN_keep f (k+1) 26 (by rw[h1];exact hb) (by omega)
 unfold wrong
 rw[this,h1]
theorem wrong_end (f:Nat→Int) (k:Nat) (h:wrongN f k=0) (hk:k=26):wrong f=0:=by subst hk;exact h
def seen (f:Nat→Int) (k:Nat) (v:Nat):Bool:=(List.range k).any (fun j=>f j==(v:Int))
theorem seen_succ (f:Nat→Int) (k v:Nat):seen f (k+1) v=(seen f k v || f k==(v:Int)):=by
 simp[seen,List.range_succ,List.any_append]
theorem bad_range (f:Nat→Int) (i:Nat) (h:f i<0∨26≤f i):bad f i=3:=by simp[bad,h]
theorem bad_fit (f:Nat→Int) (i n:Nat) (h:f i=(n:Int)) (hn:n<26) (hs:seen f i n=true):bad f i=8:=by
 unfold bad
 rw[if_neg (by omega),if_pos (by rw[h];exact hs)]
theorem bad_ok (f:Nat→Int) (i n:Nat) (h:f i=(n:Int)) (hn:n<26) (hs:seen f i n=false):bad f i=0:=by
 unfold bad
 rw[if_neg (by omega),if_neg (by rw[h];simpa [seen] using hs)]
theorem wrongN_zero (f:Nat→Int):∀n,wrongN f n=0↔∀i,i<n→bad f i=0
 | 0=>by simp[wrongN]
 | n+1=>by
  have ih:=wrongN_zero f n
  constructor
  ·intro h i hi
   by_cases e:wrongN f n=0
   ·rw[wrongN_succ f n e] at h
    by_cases e2:i=n
    ·rw[e2];exact h
    ·exact ih.1 e i (by omega)
   ·exact absurd ((wrongN_keep f n (n+1) e (by omega)).symm.trans h) e
  ·intro h
   rw[wrongN_succ f n (ih.2 fun i hi=>h i (by omega))]
   exact h n (by omega)
theorem bad_zero (f:Nat→Int) (i:Nat):bad f i=0↔(0≤f i∧f i<26∧∀j,j<i→f j≠f i):=by
 unfold bad
 by_cases h1:f i<0∨26≤f i
 ·rw[if_pos h1]
  constructor
  ·intro h;exact absurd h (by decide)
  ·intro ⟨a,b,_⟩;omega
 ·rw[if_neg h1]
  by_cases h2:(List.range i).any (fun j=>f j==f i)=true
  ·rw[if_pos h2]
   simp at h2
   obtain ⟨j,hj,e⟩:=h2
   constructor
   ·intro h;exact absurd h (by decide)
   ·intro ⟨_,_,c⟩;exact absurd e (c j hj)
  ·rw[if_neg h2]
   simp at h2
   simp only[true_iff]
   exact ⟨by omega,by omega,h2⟩
structure IsPerm (p:Nat→Nat):Prop where
 lt:∀i,i<26→p i<26
 inj:∀i j,i<26→j<26→p i=p j→i=j
def up (p:Nat→Nat):Nat→Int:=fun i=>(p i:Int)
theorem wrong_zero (f:Nat→Int):wrong f=0↔∃p,IsPerm p∧∀i,i<26→f i=(p i:Int):=by
 unfold wrong
 rw[wrongN_zero]
 constructor
 ·intro h
  refine ⟨fun i=>(f i).toNat,⟨fun i hi=>?_,fun i j hi hj e=>?_⟩,fun i hi=>?_⟩
  ·have:=(bad_zero f i).1 (h i hi);show (f i).toNat<26;omega
  ·have h1:=(bad_zero f i).1 (h i hi)
   have h2:=(bad_zero f j).1 (h j hj)
   have e':f i=f j:=by have e:(f i).toNat=(f j).toNat:=e;omega
   rcases Nat.lt_trichotomy i j with c | c | c
   ·exact absurd e' (h2.2.2 i c)
   ·exact c
   ·exact absurd e'.symm (h1.2.2 j c)
  ·have:=(bad_zero f i).1 (h i hi);show f i=((f i).toNat:Int);omega
 ·rintro ⟨p,hp,he⟩ i hi
  rw[bad_zero,he i hi]
  have:=hp.lt i hi
  refine ⟨by omega,by omega,fun j hj=>?_⟩
  rw[he j (by omega)]
  intro e
  have:=hp.inj j i (by omega) hi (by omega)
  omega
theorem wrong_up (p:Nat→Nat) (hp:IsPerm p):wrong (up p)=0:=(wrong_zero _).2 ⟨p,hp,fun _ _=>rfl⟩
theorem IsPerm.comp {p q:Nat→Nat} (hp:IsPerm p) (hq:IsPerm q):IsPerm (fun i=>q (p i)) :=
 ⟨fun i hi=>hq.lt _ (hp.lt i hi),fun i j hi hj e=>hp.inj i j hi hj (hq.inj _ _ (hp.lt i hi) (hp.lt j hj) e)⟩
theorem IsPerm.id:IsPerm (fun i=>i):=⟨fun _ h=>h,fun _ _ _ _ e=>e⟩
end Go.Proofs.Ytpdemelchhkfaaa.Pm

/-
  Contract of perm.Wrong.
-/
namespace Go.Proofs.Ytpdemelchhkfaaa
open Go.RowKit PK

theorem info_perm:(Try.prog.info? 38).map (·.size)=some 26:=by kernel_rfl
theorem info_int:(Try.prog.info? 3).map (·.size)=some 1:=by kernel_rfl

theorem met_step (f:Nat→Int) (k n:Nat) (h:f k=(n:Int)):bools 26 (upd (Pm.seen f k) n true)=bools 26 (Pm.seen f (k+1)):=bools_ext fun i _=>by
 rw[Pm.seen_succ,h]
 by_cases e:i=n
 ·subst e;simp
 ·rw[upd_other _ _ e]
  have:(n:Int)≠(i:Int):=by omega
  simp[this]

set_option maxHeartbeats 1000000 in
theorem wrong_any (f:Nat→Int) (w:World):Calls Try.prog 29 #[.agg (ints 26 f)] w fun e w'=>e=.returned (.int .i64 (Pm.wrong f))∧Below w.heap.size w w':=by
 go_enter Try.func29,Try.ntmps29
 go_wp2_with (refine wpList_load_row rfl 38 _ rfl w.heap.size rfl 38 (ints 26 f) (0,0) _ ((RowAt.new w _ _).alloc _) Try.underlying38 rfl (by rw[ints_size];exact info_perm) ?_)
 rw[none26]
 go_loopw [7] (fun i W=>∃k:Nat,k≤26∧i=.int .i64 k∧Hid (Pm.wrongN f k=0)∧RowAt W (w.heap.size+1) 97 (bools 26 (Pm.seen f k))∧Below w.heap.size w W) (fun i _=>(26-intOf i).toNat)
 case atStart =>
  refine ⟨0,by omega,rfl,rfl,?_,((Below.refl _ _).alloc (Nat.le_refl _) _).alloc (by simp) _⟩
  have:=RowAt.new (w.alloc (Obj.cells (ints 26 f) 38)) 97 (bools 26 fun x=>false)
  rw[World.size_alloc] at this
  exact this
 case round =>
  obtain ⟨k,hk,rfl,HN,hrow,hb⟩:=hrel
  by_cases hlt:k<26
  ·have hg:=run_index_ints 38 3 26 Try.underlying38 Try.underlying3 info_int f k hlt
   by_cases hr:f k<0∨26≤f k
   ·have H:Hid (Pm.wrong f=3):=by rw[Hid,Pm.wrong_stop f k HN.out (by rw[Pm.bad_range f k hr];decide) hlt,Pm.bad_range f k hr]
    rcases hr with hr | hr
    ·go_wp2
     go_ret
     exact ⟨ret_int H.out.symm,hb⟩
    ·have hr0:¬f k<0:=by omega
     go_wp2
     go_ret
     exact ⟨ret_int H.out.symm,hb⟩
   ·obtain ⟨n,hn⟩:∃n:Nat,f k=n:=⟨(f k).toNat,by omega⟩
    have hn26:n<26:=by omega
    have HM:Hid (f k=n):=hn
    rw[hn] at hg
    clear hr hn
    have hc:=hrow.cell (bools_get (Pm.seen f k) hn26)
    have hf:=hrow.frozen n
    cases hs:Pm.seen f k n
    ·rw[hs] at hc
     have HS:Hid (Pm.seen f k n=false):=hs
     clear hs
     go_wp2
     go_roundw
     case rel =>
      refine ⟨k+1,by omega,by go_num,?_,?_,?_⟩
      ·rw[Hid,Pm.wrongN_succ f k HN.out,Pm.bad_ok f k n HM.out hn26 HS.out]
      ·rw[←met_step f k n HM.out,←bools_set]
       exact hrow.set n _
      ·exact hb.setCell (by simp) _
     case measure=>simp[intOf];omega
    ·rw[hs] at hc
     have HS:Hid (Pm.wrong f=8):=by
      have h8:=Pm.bad_fit f k n HM.out hn26 hs
      rw[Hid,Pm.wrong_stop f k HN.out (by rw[h8];decide) hlt,h8]
     clear hs
     go_wp2
     go_ret
     exact ⟨ret_int HS.out.symm,hb⟩
  ·have HK:Hid (k=26):=by rw[Hid];omega
   go_wp2
   go_ret
   exact ⟨ret_int (Pm.wrong_end f k HN.out HK.out).symm,hb⟩
end Go.Proofs.Ytpdemelchhkfaaa

/-
  Laws of no program: a slice that is built of arrays (what a call with '...' is given).
-/
namespace Go.Proofs.Ytpdemelchhkfaaa.PK
open Go.RowKit

def lay (n:Nat) (g:Nat→Value) (o:Nat) (f:Nat→Int):Nat→Value:=fun i=>if o≤i∧i<o+n then .int .i64 (f (i-o)) else g i
theorem foldl_lay (N:Nat) (off:Nat):∀(l:List Value) (s:Nat) (g:Nat→Value),(l.zipIdx s).foldl (fun cs x=>cs.setIfInBounds (off+x.2) x.1) (tab N g)=tab N fun i=>if off+s≤i∧i<off+s+l.length then l.getD (i-(off+s)) (.bool false) else g i
 | [],s,g=>by
  simp only[List.zipIdx_nil,List.foldl_nil,List.length_nil]
  exact tab_ext fun i _=>by rw[if_neg (by omega)]
 | v :: l,s,g=>by
  simp only[List.zipIdx_cons,List.foldl_cons]
  rw[tab_set,foldl_lay N off l (s+1)]
  refine tab_ext fun i _=>?_
  by_cases h1:i=off+s
  ·subst h1
   rw[if_neg (by omega),if_pos (by simp)]
   simp
  ·by_cases h2:off+s≤i∧i<off+s+(v :: l).length
   ·have h3:off+(s+1)≤i∧i<off+(s+1)+l.length:=by simp at h2;omega
    rw[if_pos h3,if_pos h2]
    obtain ⟨j,hj⟩:∃j,i-(off+s)=j+1:=⟨i-(off+s)-1,by omega⟩
    have hj':i-(off+(s+1))=j:=by omega
    rw[hj,hj']
    simp
   ·rw[if_neg (by simp at h2;omega),if_neg h2]
    simp[upd,h1]
theorem range_tab (N:Nat) (h:Nat→Value):(Array.range N).map h=tab N h:=by
 apply Array.ext_getElem?
 intro i
 by_cases h1:i<N
 ·simp[tab,h1]
 ·simp[tab,h1]

section
variable {P:Program}
theorem wpList_build0 {ops:Array Oper} {rest:List Oper} {op:Oper} {a:Act} {w:World} {Q:Exit→Act→World→Prop} (hgd:op.guard=none) (t:TypeId) (ho:op.op=.build t #[])
  (cells:Array Value) (hb:P.built t []=some cells) (h:wpList P ops Q rest (a.put op.dst (.agg cells)) w):wpList P ops Q (op :: rest) a w :=
 wpList_plain hgd fun _ hK=>by
  unfold Oper.wp execOp
  have hm:(#[]:Array (Nat × Operand)).map (fun (i,x)=>(i,a.eval x))=#[]:=by simp
  simp only[ho,Sem.run_bind,hm,run_build w t #[] cells hb,Result.andThen_ok]
  exact hK _ _ h
end
theorem results_cell_tmp2 {P:Program} {fn:Func} {p q:Tmp} {ty:TypeId} (h:fn.results=#[.cell p ty,.tmp q]) (tmps:Array Value) (w:World) (g:Nat) (t:TypeId) (cs:Array Value) (fr:Nat × Nat) (d:TypeDesc) (v:Value)
  (hp:tmps.getD p undef=.pointer (some ⟨g,0,none⟩)) (hv:tmps.getD q undef=v) (hg:w.heap[g]? = some (.cells cs t fr))
  (hu:P.underlying ty=some d) (hd:(match d with | .struct _ | .array _ _=>true | _=>false)=true) (hi:(P.info? ty).map (·.size)=some cs.size) :
  (results fn tmps).run P w=.ok (.tuple #[.agg cs,v]) w:=by
 have hp':tmps[p]?.getD undef=.pointer (some ⟨g,0,none⟩):=by simpa using hp
 have hv':tmps[q]?.getD undef=v:=by simpa using hv
 simp[results,h,hp',hv',asAddr,run_loadVar_row w g t ty cs fr d hg hu hd hi]
end Go.Proofs.Ytpdemelchhkfaaa.PK

/-
  The document's Wrong and Back of chapter 2.
-/
namespace Go.Proofs.Ytpdemelchhkfaaa
open Go.RowKit PK

section
variable {ops:Array Oper} {rest:List Oper} {op:Oper} {a:Act} {w:World} {Q:Exit→Act→World→Prop}
end
theorem run_slice_perm (b k:Nat) (hk:k≤26) (W:World):(Instr.sliceAt 38 (.pointer (some ⟨b,0,none⟩)) none (some (.int .i64 (k:Int))) none).run Try.prog W=.ok (.slice (some ⟨b,0,none⟩) k 26) W:=by
 have ha:Try.prog.arrayLen 38=26:=by kernel_rfl
 have he:Try.prog.elem 38=3:=by kernel_rfl
 have h1:=run_sliceAt_array_h (P:=Try.prog) W 38 ⟨b,0,none⟩ (by rw[ha,he];exact Try.underlying38) .i64 (k:Int) (by omega) (by rw[ha];omega)
 rw[h1,ha,he]
 cases hq:Try.prog.info? 3 with
 | none=>have:=info_int;simp[hq] at this
 | some i =>
  have hs:i.size=1:=by have:=info_int;simpa [hq] using this
  simp[sizeOf,typeInfo,hq,hs,slicedAt,Addr.add_mid]
theorem rwrong_any (f:Nat→Int) (w:World):Calls Try.prog 33 #[.agg (ints 26 f)] w fun e w'=>e=.returned (.int .i64 (Pm.wrong f))∧Below w.heap.size w w':=by
 go_enter Try.func33,Try.ntmps33
 go_wp2_with (refine wpList_load_row rfl 38 _ rfl w.heap.size rfl 38 (ints 26 f) (0,0) _ (RowAt.new w _ _) Try.underlying38 rfl (by rw[ints_size];exact info_perm) ?_)
 have hrow:=RowAt.new w 38 (ints 26 f)
 have hb:Below w.heap.size w (w.alloc (.cells (ints 26 f) 38)):=(Below.refl _ _).alloc (Nat.le_refl _) _
 generalize w.alloc (.cells (ints 26 f) 38)=W at hrow hb ⊢
 go_loop [8] (fun i=>∃k:Nat,k≤26∧i=.int .i64 k∧Hid (Pm.wrongN f k=0)) (fun i=>(26-intOf i).toNat)
 case atStart=>exact ⟨0,by omega,rfl,rfl⟩
 case round =>
  obtain ⟨k,hk,rfl,HN⟩:=hrel
  by_cases hlt:k<26
  ·have hg:=run_index_ints 38 3 26 Try.underlying38 Try.underlying3 info_int f k hlt
   by_cases hr:f k<0∨26≤f k
   ·have H:Hid (Pm.wrong f=3):=by rw[Hid,Pm.wrong_stop f k HN.out (by rw[Pm.bad_range f k hr];decide) hlt,Pm.bad_range f k hr]
    rcases hr with hr | hr
    ·go_wp2
     go_ret
     exact ⟨ret_int H.out.symm,hb⟩
    ·have hr0:¬f k<0:=by omega
     have hr1:25<f k:=by omega
     go_wp2
     go_ret
     exact ⟨ret_int H.out.symm,hb⟩
   ·obtain ⟨n,hn⟩:∃n:Nat,f k=n:=⟨(f k).toNat,by omega⟩
    have hn26:n<26:=by omega
    have hn25:¬(25<n):=by omega
    have HM:Hid (f k=n):=hn
    rw[hn] at hg
    clear hr hn
    have hsl:=run_slice_perm w.heap.size k (by omega)
    go_wp2
    clear hsl
    go_loop [21] (fun i=>∃m:Nat,m≤k∧i=.int .i64 m∧Hid (Pm.seen f m n=false)) (fun i=>(k-intOf i).toNat)
    case atStart=>exact ⟨0,by omega,rfl,rfl⟩
    case round =>
     obtain ⟨m,hm,rfl,HS⟩:=hrel
     by_cases hmk:m<k
     ·have hc:=hrow.cell (ints_get f (i:=m) (by omega))
      have hss:=Pm.seen_succ f m n
      rw[HS.out,Bool.false_or] at hss
      cases he:(f m==(n:Int))
      ·rw[he] at hss
       have HSS:Hid (Pm.seen f (m+1) n=false):=hss
       clear hss
       go_wp2
       exact ⟨⟨m+1,by omega,by go_num,HSS⟩,by simp[intOf];omega⟩
      ·have hsk:Pm.seen f k n=true:=by
        unfold Pm.seen
        simp
        exact ⟨m,hmk,eq_of_beq he⟩
       have H8:Hid (Pm.wrong f=8):=by
        have h8:=Pm.bad_fit f k n HM.out hn26 hsk
        rw[Hid,Pm.wrong_stop f k HN.out (by rw[h8];decide) hlt,h8]
       clear hss hsk
       go_wp2
       go_ret
       exact ⟨ret_int H8.out.symm,hb⟩
     ·have HMK:Hid (m=k):=by rw[Hid];omega
      go_wp2
      exact ⟨⟨k+1,by omega,by go_num,by rw[Hid,Pm.wrongN_succ f k HN.out,Pm.bad_ok f k n HM.out hn26 (by rw[←HMK.out];exact HS.out)]⟩,by simp[intOf];omega⟩
  ·have HK:Hid (k=26):=by rw[Hid];omega
   go_wp2
   go_ret
   exact ⟨ret_int (Pm.wrong_end f k HN.out HK.out).symm,hb⟩
end Go.Proofs.Ytpdemelchhkfaaa
