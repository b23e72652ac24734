/-
  Several texts, joined: PBuild, OPm, RoKit, ORef, RoSm.
-/
import Derived.Test.YtkohhdkkbaifoaaGreatDoorJn1
import Derived.Test.YtkohhdkkbaifoaaGreatDoorJn3
import Derived.Deep.QuietTactic
import Derived.BigQuiet
import Derived.OrdersHeld
import Derived.Test.YtkohhdkkbaifoaaGreatDoorJn2
import Derived.Deep.Upon
import Derived.BigRegion
import Derived.Deep.OwnRows
import Derived.RegionTactic
/-
  Laws of no program: a slice that is built of arrays (what a call with '...' is given).
-/
namespace Go.Proofs.YtkohhdkkbaifoaaGreatDoor.PK
open Go.RowKit

def lay (n:Nat) (g:Nat→Value) (o:Nat) (f:Nat→Int):Nat→Value:=fun i=>if o≤i∧i<o+n then .int .i64 (f (i-o)) else g i
theorem foldl_lay (N:Nat) (off:Nat):∀(l:List Value) (s:Nat) (g:Nat→Value),(l.zipIdx s).foldl (fun cs x=>cs.setIfInBounds (off+x.2) x.1) (tab N g)=tab N fun i=>if off+s≤i∧i<off+s+l.length then l.getD (i-(off+s)) (.bool false) else g i
 | [],s,g=>by
  simp only[List.zipIdx_nil,List.foldl_nil,List.length_nil]
  exact tab_ext fun i _=>by rw[if_neg (by omega)]
 | v :: l,s,g=>by
  simp only[List.zipIdx_cons,List.foldl_cons]
  rw[tab_set,foldl_lay N off l (s+1)]
  refine tab_ext fun i _=>?_
  by_cases h1:i=off+s
  ·subst h1
   rw[if_neg (by omega),if_pos (by simp)]
   simp
  ·by_cases h2:off+s≤i∧i<off+s+(v :: l).length
   ·have h3:off+(s+1)≤i∧i<off+(s+1)+l.length:=by simp at h2;omega
    rw[if_pos h3,if_pos h2]
    obtain ⟨j,hj⟩:∃j,i-(off+s)=j+1:=⟨i-(off+s)-1,by omega⟩
    have hj':i-(off+(s+1))=j:=by omega
    rw[hj,hj']
    simp
   ·rw[if_neg (by simp at h2;omega),if_neg h2]
    simp[upd,h1]
theorem ints_toList (n:Nat) (f:Nat→Int):(ints n f).toList=(List.range n).map fun i=>.int .i64 (f i):=by simp[ints,tab]
theorem fill_step (n N:Nat) (g:Nat→Value) (k:Nat) (f:Nat→Int) (rest:List (Nat × Value)) (h:k*n+n≤N) :
  Instr.fill (fun i=>some (i*n,n)) (tab N g) ((k,.agg (ints n f)) :: rest)=Instr.fill (fun i=>some (i*n,n)) (tab N (lay n g (k*n) f)) rest:=by
 rw[Instr.fill]
 have h0:(Value.agg (ints n f)).cells=ints n f:=rfl
 simp only[h0,ints_size,tab_size]
 rw[if_neg (by simp <;> omega)]
 congr 1
 rw[←Array.foldl_toList,Array.toList_zipIdx]
 have:=foldl_lay N (k*n) (ints n f).toList 0 g
 rw[this]
 refine tab_ext fun i _=>?_
 rw[ints_toList]
 simp only[List.length_map,List.length_range,Nat.add_zero,lay]
 by_cases e:k*n≤i∧i<k*n+n
 ·rw[if_pos e,if_pos e]
  have:i-k*n<n:=by omega
  simp[List.getD,this]
 ·rw[if_neg e,if_neg e]
theorem range_tab (N:Nat) (h:Nat→Value):(Array.range N).map h=tab N h:=by
 apply Array.ext_getElem?
 intro i
 by_cases h1:i<N
 ·simp[tab,h1]
 ·simp[tab,h1]

section
variable {P:Program}
theorem run_build1 (w:World) (t e:TypeId) (n:Nat) (hn:n*2≤2 ^ 24) (hu:P.underlying t=some (.slice e)) (hz:(P.info? e).map (fun i=>(i.zero,i.size))=some (some (.agg (ints n fun _=>0)),n)) (h0:0<n) (f:Nat→Int) :
  (Instr.buildSlice t 1 #[(0,.agg (ints n f))]).run P w=.ok (.slice (some ⟨w.heap.size,0,none⟩) 1 1) (w.alloc (.cells (ints n f) e)):=by
 obtain ⟨hz1,hz2⟩:=zero_of_info hz
 cases hq:P.info? e with
 | none=>simp[hq] at hz
 | some i =>
  have hs:i.size=n:=by simpa [hq] using hz2
  have hsz:∀W,(sizeOf e).run P W=.ok n W:=fun W=>by simp[sizeOf,typeInfo,hq,hs]
  have hlay:tab n (lay n (fun x=>(ints n fun _=>0)[x % n]!) (0*n) f)=ints n f:=tab_ext fun i hi=>by
   unfold lay
   rw[if_pos (by omega)]
   simp
  have hfill:=fill_step n n (fun x=>(ints n fun _=>0)[x % n]!) 0 f [] (by omega)
  rw[hlay] at hfill
  have hfill':=hfill.trans (rfl:_=some (ints n f))
  have h3:¬(n > 2 ^ 24):=by omega
  have h4:¬(n=0):=by omega
  have hc:(Value.agg (ints n fun _=>0)).cells=ints n fun _=>0:=rfl
  simp only[Instr.buildSlice,Sem.run_bind,run_underlying hu,Result.andThen_ok,hsz,Nat.one_mul,h3,h4,if_false,hz1,Sem.run_pure,hc,ints_size,range_tab,hfill']
  simp[newRow]
theorem wpList_build0 {ops:Array Oper} {rest:List Oper} {op:Oper} {a:Act} {w:World} {Q:Exit→Act→World→Prop} (hgd:op.guard=none) (t:TypeId) (ho:op.op=.build t #[])
  (cells:Array Value) (hb:P.built t []=some cells) (h:wpList P ops Q rest (a.put op.dst (.agg cells)) w):wpList P ops Q (op :: rest) a w :=
 wpList_plain hgd fun _ hK=>by
  unfold Oper.wp execOp
  have hm:(#[]:Array (Nat × Operand)).map (fun (i,x)=>(i,a.eval x))=#[]:=by simp
  simp only[ho,Sem.run_bind,hm,run_build w t #[] cells hb,Result.andThen_ok]
  exact hK _ _ h
theorem wpList_build1 {ops:Array Oper} {rest:List Oper} {op:Oper} {a:Act} {w:World} {Q:Exit→Act→World→Prop} (hgd:op.guard=none) (t e:TypeId) (x:Operand) (ho:op.op=.buildSlice t 1 #[(0,x)])
  (n:Nat) (f:Nat→Int) (hx:a.eval x=.agg (ints n f)) (hn:n*2≤2 ^ 24) (hu:P.underlying t=some (.slice e)) (hz:(P.info? e).map (fun i=>(i.zero,i.size))=some (some (.agg (ints n fun _=>0)),n)) (h0:0<n)
  (h:wpList P ops Q rest (a.put op.dst (.slice (some ⟨w.heap.size,0,none⟩) 1 1)) (w.alloc (.cells (ints n f) e))):wpList P ops Q (op :: rest) a w :=
 wpList_plain hgd fun _ hK=>by
  unfold Oper.wp execOp
  have hm:(#[(0,x)]:Array (Nat × Operand)).map (fun (i,x)=>(i,a.eval x))=#[(0,.agg (ints n f))]:=by simp[hx]
  simp only[ho,Sem.run_bind,hm,run_build1 w t e n hn hu hz h0 f,Result.andThen_ok]
  exact hK _ _ h
end
theorem results_cell_tmp2 {P:Program} {fn:Func} {p q:Tmp} {ty:TypeId} (h:fn.results=#[.cell p ty,.tmp q]) (tmps:Array Value) (w:World) (g:Nat) (t:TypeId) (cs:Array Value) (fr:Nat × Nat) (d:TypeDesc) (v:Value)
  (hp:tmps.getD p undef=.pointer (some ⟨g,0,none⟩)) (hv:tmps.getD q undef=v) (hg:w.heap[g]? = some (.cells cs t fr))
  (hu:P.underlying ty=some d) (hd:(match d with | .struct _ | .array _ _=>true | _=>false)=true) (hi:(P.info? ty).map (·.size)=some cs.size) :
  (results fn tmps).run P w=.ok (.tuple #[.agg cs,v]) w:=by
 have hp':tmps[p]?.getD undef=.pointer (some ⟨g,0,none⟩):=by simpa using hp
 have hv':tmps[q]?.getD undef=v:=by simpa using hv
 simp[results,h,hp',hv',asAddr,run_loadVar_row w g t ty cs fr d hg hu hd hi]
theorem range_one {w:World} {b:Nat} {T:TypeId} {f:Nat→Int} (h:RowAt w b T (ints 26 f)):∀k,k<1→w.rangeAt b (k*26) (ints 26 f).toList:=fun k hk=>by
 have:k=0:=by omega
 subst this
 exact h.range
theorem after2 {w W1:World} {T:TypeId} {f g z c:Nat→Int} {n:Nat} (hb:Below ((((w.alloc (.cells (ints 26 f) T)).alloc (.cells (ints 26 g) T)).alloc (.cells (ints 26 z) T)).alloc (.cells (ints n c) T)).heap.size ((((w.alloc (.cells (ints 26 f) T)).alloc (.cells (ints 26 g) T)).alloc (.cells (ints 26 z) T)).alloc (.cells (ints n c) T)) W1) :
  RowAt W1 w.heap.size T (ints 26 f)∧RowAt W1 (w.heap.size+1) T (ints 26 g)∧RowAt W1 (w.heap.size+1+1) T (ints 26 z)∧Below w.heap.size w W1∧w.heap.size+4≤W1.heap.size:=by
 have hs:=hb.size
 simp at hs
 refine ⟨RowAt.below (((RowAt.new w _ _).alloc _).alloc _ |>.alloc _) hb (by simp <;> omega),RowAt.below ?_ hb (by simp <;> omega),RowAt.below ?_ hb (by simp),?_,hs⟩
 ·have:=RowAt.new (w.alloc (.cells (ints 26 f) T)) T (ints 26 g)
  rw[World.size_alloc] at this
  exact (this.alloc _).alloc _
 ·have:=RowAt.new ((w.alloc (.cells (ints 26 f) T)).alloc (.cells (ints 26 g) T)) T (ints 26 z)
  rw[World.size_alloc,World.size_alloc] at this
  exact this.alloc _
 ·exact ((((((Below.refl _ _).alloc (Nat.le_refl _) _).alloc (by simp) _).alloc (by simp <;> omega) _).alloc (by simp <;> omega) _).trans (hb.mono (by simp <;> omega)))
theorem after1 {w W1:World} {T:TypeId} {f z c:Nat→Int} {n:Nat} (hb:Below (((w.alloc (.cells (ints 26 f) T)).alloc (.cells (ints 26 z) T)).alloc (.cells (ints n c) T)).heap.size (((w.alloc (.cells (ints 26 f) T)).alloc (.cells (ints 26 z) T)).alloc (.cells (ints n c) T)) W1) :
  RowAt W1 w.heap.size T (ints 26 f)∧RowAt W1 (w.heap.size+1) T (ints 26 z)∧Below w.heap.size w W1∧w.heap.size+3≤W1.heap.size:=by
 have hs:=hb.size
 simp at hs
 refine ⟨RowAt.below (((RowAt.new w _ _).alloc _).alloc _) hb (by simp <;> omega),RowAt.below ?_ hb (by simp),?_,hs⟩
 ·have:=RowAt.new (w.alloc (.cells (ints 26 f) T)) T (ints 26 z)
  rw[World.size_alloc] at this
  exact this.alloc _
 ·exact (((((Below.refl _ _).alloc (Nat.le_refl _) _).alloc (by simp) _).alloc (by simp <;> omega) _).trans (hb.mono (by simp <;> omega)))
theorem after0 {w W1:World} {T:TypeId} {f c:Nat→Int} {n:Nat} (hb:Below ((w.alloc (.cells (ints 26 f) T)).alloc (.cells (ints n c) T)).heap.size ((w.alloc (.cells (ints 26 f) T)).alloc (.cells (ints n c) T)) W1) :
  RowAt W1 w.heap.size T (ints 26 f)∧Below w.heap.size w W1∧w.heap.size+2≤W1.heap.size:=by
 have hs:=hb.size
 simp at hs
 refine ⟨RowAt.below ((RowAt.new w _ _).alloc _) hb (by simp <;> omega),?_,hs⟩
 exact ((((Below.refl _ _).alloc (Nat.le_refl _) _).alloc (by simp) _).trans (hb.mono (by simp <;> omega)))
theorem RowAt.newAt {w:World} {b:Nat} {T:TypeId} {c:Array Value} (h:b=w.heap.size):RowAt (w.alloc (.cells c T)) b T c:=by subst h;exact RowAt.new _ _ _
end Go.Proofs.YtkohhdkkbaifoaaGreatDoor.PK

/-
  The document's Wrong and Back of chapter 2.
-/
namespace Go.Proofs.YtkohhdkkbaifoaaGreatDoor
open Go.RowKit PK

theorem built_perm:Tryz.prog.built 27 []=some (ints 26 fun _=>0):=by kernel_rfl
section
variable {ops:Array Oper} {rest:List Oper} {op:Oper} {a:Act} {w:World} {Q:Exit→Act→World→Prop}
theorem load_perm {w:World} (hw:Region.wanted op (yielded ops a.tmps)=true) (x:Operand) (ho:op.op=.load 27 x) (g:Nat) (hx:a.eval x=.pointer (some ⟨g,0,none⟩)) (f:Nat→Int) (hr:RowAt w g 27 (ints 26 f))
  (h:wpList Tryz.prog ops Q rest (a.put op.dst (.agg (ints 26 f))) w):wpList Tryz.prog ops Q (op :: rest) a w :=
 wpList_step fun K hK=>by
  rw[if_pos hw]
  exact wp_load_row 27 x ho g hx 27 (ints 26 f) (0,0) _ hr Tryz.underlying27 rfl (by rw[ints_size];exact info_perm) (hK _ _ h)
end
theorem run_slice_perm (b k:Nat) (hk:k≤26) (W:World):(Instr.sliceAt 27 (.pointer (some ⟨b,0,none⟩)) none (some (.int .i64 (k:Int))) none).run Tryz.prog W=.ok (.slice (some ⟨b,0,none⟩) k 26) W:=by
 have ha:Tryz.prog.arrayLen 27=26:=by kernel_rfl
 have he:Tryz.prog.elem 27=3:=by kernel_rfl
 have h1:=run_sliceAt_array_h (P:=Tryz.prog) W 27 ⟨b,0,none⟩ (by rw[ha,he];exact Tryz.underlying27) .i64 (k:Int) (by omega) (by rw[ha];omega)
 rw[h1,ha,he]
 cases hq:Tryz.prog.info? 3 with
 | none=>have:=info_int;simp[hq] at this
 | some i =>
  have hs:i.size=1:=by have:=info_int;simpa [hq] using this
  simp[sizeOf,typeInfo,hq,hs,slicedAt,Addr.add_mid]
theorem rwrong_any (f:Nat→Int) (w:World):Calls Tryz.prog 70 #[.agg (ints 26 f)] w fun e w'=>e=.returned (.int .i64 (Pm.wrong f))∧Below w.heap.size w w':=by
 go_enter Tryz.func70,Tryz.ntmps70
 go_wp2_with (refine wpList_load_row rfl 27 _ rfl w.heap.size rfl 27 (ints 26 f) (0,0) _ (RowAt.new w _ _) Tryz.underlying27 rfl (by rw[ints_size];exact info_perm) ?_)
 have hrow:=RowAt.new w 27 (ints 26 f)
 have hb:Below w.heap.size w (w.alloc (.cells (ints 26 f) 27)):=(Below.refl _ _).alloc (Nat.le_refl _) _
 generalize w.alloc (.cells (ints 26 f) 27)=W at hrow hb ⊢
 go_loop [8] (fun i=>∃k:Nat,k≤26∧i=.int .i64 k∧Hid (Pm.wrongN f k=0)) (fun i=>(26-intOf i).toNat)
 case atStart=>exact ⟨0,by omega,rfl,rfl⟩
 case round =>
  obtain ⟨k,hk,rfl,HN⟩:=hrel
  by_cases hlt:k<26
  ·have hg:=run_index_ints 27 3 26 Tryz.underlying27 Tryz.underlying3 info_int f k hlt
   by_cases hr:f k<0∨26≤f k
   ·have H:Hid (Pm.wrong f=3):=by rw[Hid,Pm.wrong_stop f k HN.out (by rw[Pm.bad_range f k hr];decide) hlt,Pm.bad_range f k hr]
    rcases hr with hr | hr
    ·go_wp2
     go_ret
     exact ⟨ret_int H.out.symm,hb⟩
    ·have hr0:¬f k<0:=by omega
     have hr1:25<f k:=by omega
     go_wp2
     go_ret
     exact ⟨ret_int H.out.symm,hb⟩
   ·obtain ⟨n,hn⟩:∃n:Nat,f k=n:=⟨(f k).toNat,by omega⟩
    have hn26:n<26:=by omega
    have hn25:¬(25<n):=by omega
    have HM:Hid (f k=n):=hn
    rw[hn] at hg
    clear hr hn
    have hsl:=run_slice_perm w.heap.size k (by omega)
    go_wp2
    clear hsl
    go_loop [21] (fun i=>∃m:Nat,m≤k∧i=.int .i64 m∧Hid (Pm.seen f m n=false)) (fun i=>(k-intOf i).toNat)
    case atStart=>exact ⟨0,by omega,rfl,rfl⟩
    case round =>
     obtain ⟨m,hm,rfl,HS⟩:=hrel
     by_cases hmk:m<k
     ·have hc:=hrow.cell (ints_get f (i:=m) (by omega))
      have hss:=Pm.seen_succ f m n
      rw[HS.out,Bool.false_or] at hss
      cases he:(f m==(n:Int))
      ·rw[he] at hss
       have HSS:Hid (Pm.seen f (m+1) n=false):=hss
       clear hss
       go_wp2
       exact ⟨⟨m+1,by omega,by go_num,HSS⟩,by simp[intOf];omega⟩
      ·have hsk:Pm.seen f k n=true:=by
        unfold Pm.seen
        simp
        exact ⟨m,hmk,eq_of_beq he⟩
       have H8:Hid (Pm.wrong f=8):=by
        have h8:=Pm.bad_fit f k n HM.out hn26 hsk
        rw[Hid,Pm.wrong_stop f k HN.out (by rw[h8];decide) hlt,h8]
       clear hss hsk
       go_wp2
       go_ret
       exact ⟨ret_int H8.out.symm,hb⟩
     ·have HMK:Hid (m=k):=by rw[Hid];omega
      go_wp2
      exact ⟨⟨k+1,by omega,by go_num,by rw[Hid,Pm.wrongN_succ f k HN.out,Pm.bad_ok f k n HM.out hn26 (by rw[←HMK.out];exact HS.out)]⟩,by simp[intOf];omega⟩
  ·have HK:Hid (k=26):=by rw[Hid];omega
   go_wp2
   go_ret
   exact ⟨ret_int (Pm.wrong_end f k HN.out HK.out).symm,hb⟩
theorem rfrom_any (p:Nat→Nat) (hp:Pm.IsPerm p) (k:Nat) (hk:k<26) (w:World) :
  Calls Tryz.prog 217 #[.agg (ints 26 (Pm.up p)),.int .i64 (k:Nat)] w fun e w'=>e=.returned (.int .i64 (Pm.inv p k:Nat))∧Below w.heap.size w w':=by
 obtain ⟨hv1,hv2⟩:=hp.inv_spec k hk
 obtain ⟨v,hv⟩:∃v,v=Pm.inv p k:=⟨_,rfl⟩
 rw[←hv] at hv1 hv2 ⊢
 clear hv
 go_enter Tryz.func217,Tryz.ntmps217
 go_wp2_with (refine wpList_load_row rfl 27 _ rfl w.heap.size rfl 27 (ints 26 (Pm.up p)) (0,0) _ (RowAt.new w _ _) Tryz.underlying27 rfl (by rw[ints_size];exact info_perm) ?_)
 have hb:Below w.heap.size w (w.alloc (.cells (ints 26 (Pm.up p)) 27)):=(Below.refl _ _).alloc (Nat.le_refl _) _
 generalize w.alloc (.cells (ints 26 (Pm.up p)) 27)=W at hb ⊢
 have HV:Hid (p v=k):=hv2
 clear hv2
 go_loop [8] (fun i=>∃m:Nat,m≤v∧i=.int .i64 m) (fun i=>(26-intOf i).toNat)
 case atStart=>exact ⟨0,by omega,rfl⟩
 case round =>
  obtain ⟨m,hm,rfl⟩:=hrel
  have hm26:m<26:=by omega
  have hg:=run_index_ints 27 3 26 Tryz.underlying27 Tryz.underlying3 info_int (Pm.up p) m hm26
  simp only[Pm.up] at hg
  by_cases e:m=v
  ·have HE:Hid (m=v):=e
   have he:(((p m:Nat):Int)==((k:Nat):Int))=true:=by rw[e,HV.out];simp
   clear e
   go_wp2
   go_ret
   exact ⟨ret_int (by rw[HE.out]),hb⟩
  ·have he:(((p m:Nat):Int)==((k:Nat):Int))=false:=by
    simp
    intro h2
    exact e (hp.inj m v hm26 hv1 (by rw[HV.out];omega))
   go_wp2
   exact ⟨⟨m+1,by omega,by go_num⟩,by simp[intOf];omega⟩
theorem after1r {w W1:World} {T:TypeId} {f z:Nat→Int} (hb:Below ((w.alloc (.cells (ints 26 f) T)).alloc (.cells (ints 26 z) T)).heap.size ((w.alloc (.cells (ints 26 f) T)).alloc (.cells (ints 26 z) T)) W1) :
  RowAt W1 w.heap.size T (ints 26 f)∧RowAt W1 (w.heap.size+1) T (ints 26 z)∧Below w.heap.size w W1∧w.heap.size+2≤W1.heap.size:=by
 have hs:=hb.size
 simp at hs
 exact ⟨RowAt.below ((RowAt.new w _ _).alloc _) hb (by simp;omega),RowAt.below (RowAt.newAt (by simp)) hb (by simp),(((Below.refl _ _).alloc (Nat.le_refl _) _).alloc (by simp) _).trans (hb.mono (by simp;omega)),hs⟩
def fillTo (v:Nat→Int) (k:Nat):Nat→Int:=fun i=>if i<k then v i else 0
theorem fillTo_step (v:Nat→Int) (k:Nat):upd (fillTo v k) k (v k)=fillTo v (k+1):=by
 funext i
 unfold fillTo upd
 by_cases e:i=k
 ·subst e;simp
 ·by_cases h:i<k
  ·simp[e,h];omega
  ·have:¬i<k+1:=by omega
   simp[e,h,this]
theorem fillTo_zero (v:Nat→Int):ints 26 (fillTo v 0)=ints 26 fun _=>0:=ints_ext fun i _=>by simp[fillTo]
theorem fillTo_all (v:Nat→Int):ints 26 (fillTo v 26)=ints 26 v:=ints_ext fun i hi=>by simp[fillTo,hi]
theorem rback_ok (p:Nat→Nat) (hp:Pm.IsPerm p) (w:World) :
  Calls Tryz.prog 184 #[.agg (ints 26 (Pm.up p))] w fun e w'=>e=.returned (.tuple #[.agg (ints 26 (Pm.up (Pm.inv p))),.int .i64 0])∧Below w.heap.size w w':=by
 have H0:Hid (Pm.wrong (Pm.up p)=0):=Pm.wrong_up p hp
 go_enter Tryz.func184,Tryz.ntmps184
 go_wp2_with (first
  | refine load_perm rfl _ rfl w.heap.size rfl (Pm.up p) ((RowAt.new w _ _).alloc _) ?_)
 rw[zero26]
 refine (rwrong_any (Pm.up p) _).mono ?_
 rintro e W1 ⟨rfl,hb0⟩
 obtain ⟨r1,r3,hb1,hs1⟩:=after1r hb0
 clear hb0
 rw[H0.out]
 go_wp2
 rw[zero26]
 go_loopw [6] (fun i W=>∃k:Nat,k≤26∧i=.int .i64 k∧RowAt W W1.heap.size 27 (ints 26 (fillTo (Pm.up (Pm.inv p)) k))∧RowAt W w.heap.size 27 (ints 26 (Pm.up p))∧RowAt W (w.heap.size+1) 27 (ints 26 fun _=>0)∧Below w.heap.size w W∧W1.heap.size<W.heap.size) (fun i _=>(26-intOf i).toNat)
 case atStart=>exact ⟨0,by omega,rfl,by rw[fillTo_zero];exact RowAt.new _ _ _,r1.alloc _,r3.alloc _,hb1.alloc (by omega) _,by simp⟩
 case round =>
  clear r1 r3 hb1
  obtain ⟨k,hk,rfl,ro,r1,r3,hb,hsz⟩:=hrel
  by_cases hlt:k<26
  ·have hco:=ro.cell (ints_get (fillTo (Pm.up (Pm.inv p)) k) hlt)
   have hfo:=ro.frozen k
   have HST:Hid (upd (fillTo (Pm.up (Pm.inv p)) k) k (Pm.up (Pm.inv p) k)=fillTo (Pm.up (Pm.inv p)) (k+1)):=fillTo_step _ k
   have HV:Hid (Pm.up (Pm.inv p) k=((Pm.inv p k:Nat):Int)):=rfl
   go_wp2_with (first | refine load_perm rfl _ rfl _ rfl _ r1 ?_)
   refine (rfrom_any p hp k hlt _).mono ?_
   rintro e W2 ⟨rfl,hc⟩
   have hs2:=hc.size
   have ro2:=ro.below hc ro.lt
   have hco2:=ro2.cell (ints_get (fillTo (Pm.up (Pm.inv p)) k) hlt)
   have hfo2:=ro2.frozen k
   clear hco hfo
   go_wp2
   go_roundw
   case rel =>
    refine ⟨k+1,by omega,by go_num,?_,(r1.below hc r1.lt).setOther _ _ (by simp;omega),(r3.below hc r3.lt).setOther _ _ (by simp;omega),(hb.trans (hc.mono (by omega))).setCell (by simp;omega) _,by simp;omega⟩
    rw[←HST.out,HV.out,←ints_set]
    exact ro2.set k _
   case measure=>simp[intOf];omega
  ·have HK:Hid (k=26):=by rw[Hid];omega
   rw[HK.out,fillTo_all] at ro
   go_wp2_with (first
    | refine load_perm rfl _ rfl _ rfl _ ro ?_
    | refine wpList_store_row rfl 27 _ _ rfl (w.heap.size+1) (ints 26 (Pm.up (Pm.inv p))) rfl rfl 27 _ r3 (by rw[ints_size];exact info_perm) (by simp only[ints_size]) (ints_one _ _) ?_)
   exact bodyPost_ret (v:=.tuple #[.agg (ints 26 (Pm.up (Pm.inv p))),.int .i64 0]) (results_cell_tmp2 rfl _ _ (w.heap.size+1) 27 _ (0,0) _ _ rfl rfl (r3.row _) Tryz.underlying27 rfl (by rw[ints_size];exact info_perm)) rfl ⟨rfl,Below.setRow hb _ (by omega) _⟩
end Go.Proofs.YtkohhdkkbaifoaaGreatDoor

/-
  A machine at work: its cells; the way back through its wheels.
-/
namespace Go.Proofs.YtkohhdkkbaifoaaGreatDoor
open Go.RowKit PK

namespace Om
open Pm
def bk (M:Ma) (at':Nat→Nat):Nat→Nat→Nat
 | 0,c=>c
 | k+1,c=>wheel (inv (M.wi k)) (by' M at' k) (bk M at' k c)
theorem wheel_lt (p:Nat→Nat) (b c:Nat):wheel p b c<26:=Nat.mod_lt _ (by decide)
theorem bk_lt {M:Ma} (at':Nat→Nat) {c:Nat} (hc:c<26):∀k,bk M at' k c<26
 | 0=>hc
 | _+1=>wheel_lt _ _ _
theorem through_lt {M:Ma} (at':Nat→Nat) {c:Nat} (hc:c<26):∀k,through M at' k c<26
 | 0=>hc
 | _+1=>wheel_lt _ _ _
theorem wheel_inv {p:Nat→Nat} (hp:IsPerm p) {b c:Nat} (hb:b<26) (hc:c<26):wheel p b (wheel (inv p) b c)=c:=by
 have h1:=hp.inv_spec ((c+b) % 26) (Nat.mod_lt _ (by decide))
 unfold wheel
 have e:((inv p ((c+b) % 26)+26-b) % 26+b) % 26=inv p ((c+b) % 26):=by
  have:=h1.1
  omega
 rw[e,h1.2]
 omega
theorem through_bk {M:Ma} (h:Ok M) (at':Nat→Nat) {c:Nat} (hc:c<26):∀k,k≤M.n→through M at' k (bk M at' M.n c)=bk M at' (M.n-k) c
 | 0,_=>rfl
 | k+1,hk=>by
  show wheel (M.wi (M.n-1-k)) (by' M at' (M.n-1-k)) (through M at' k (bk M at' M.n c))=_
  rw[through_bk h at' hc k (by omega),show M.n-k=(M.n-1-k)+1 by omega,show M.n-(k+1)=M.n-1-k by omega]
  exact wheel_inv (h.wi _ (by omega)) (by_lt _ _ _) (bk_lt at' hc _)
theorem now_eq {M:Ma} (h:Ok M) (at':Nat→Nat) {c:Nat} (hc:c<26):now M at' c=M.pl (bk M at' M.n (M.rf (through M at' M.n (M.pl c)))):=by
 have hp:=there_perm h at'
 have h1:there M at' c<26:=hp.1 c hc
 have h2:=h.rf.1 _ h1
 have h3:=bk_lt (M:=M) at' h2 M.n
 unfold now
 refine inv_unique hp (h.pl.1 _ h3) ?_
 show through M at' M.n (M.pl (M.pl (bk M at' M.n (M.rf (there M at' c)))))=M.rf (there M at' c)
 rw[h.pl2 _ h3,through_bk h at' h2 M.n (Nat.le_refl _),Nat.sub_self]
 rfl
def mid (M:Ma) (at':Nat→Nat) (k:Nat):Nat→Nat:=fun i=>if k≤i then step M at' i else at' i
theorem mid_now (M:Ma) (at':Nat→Nat) {k i:Nat} (h:i<k):mid M at' k i=at' i:=if_neg (by omega)
theorem mid_turn {M:Ma} {at':Nat→Nat} {k:Nat} (h:turns M at' k=true):upd (mid M at' (k+1)) k ((at' k+1) % 26)=mid M at' k:=by
 funext i
 unfold upd mid
 by_cases e:i=k
 ·subst e
  rw[if_pos rfl,if_pos (Nat.le_refl _)]
  unfold step
  rw[if_pos h]
 ·rw[if_neg e]
  by_cases e2:k≤i
  ·rw[if_pos e2,if_pos (by omega)]
  ·rw[if_neg e2,if_neg (by omega)]
theorem mid_stay {M:Ma} {at':Nat→Nat} {k:Nat} (h:turns M at' k=false):mid M at' (k+1)=mid M at' k:=by
 funext i
 unfold mid
 by_cases e:i=k
 ·subst e
  rw[if_neg (by omega),if_pos (Nat.le_refl _)]
  unfold step
  rw[h]
  rfl
 ·by_cases e2:k≤i
  ·rw[if_pos e2,if_pos (by omega)]
  ·rw[if_neg e2,if_neg (by omega)]
theorem mid_all (M:Ma) (at':Nat→Nat):mid M at' 0=step M at':=by
 funext i
 unfold mid
 rw[if_pos (Nat.zero_le _)]
def car (M:Ma) (at':Nat→Nat) (k:Nat):Bool:=k==M.n || (M.no k).contains (at' k)
theorem turns_car (M:Ma) (at':Nat→Nat) (k:Nat):turns M at' k=(car M at' (k+1) || (decide (0<k) && (M.no k).contains (at' k))):=rfl
theorem car_top (M:Ma) (at':Nat→Nat):car M at' M.n=true:=by simp[car]
theorem car_in {M:Ma} (at':Nat→Nat) {k:Nat} (h:k<M.n):car M at' k=(M.no k).contains (at' k):=by
 unfold car
 rw[show (k==M.n)=false from beq_false_of_ne (by omega)]
 rfl
end Om

def wcl (p b:Nat→Nat) (no:Nat→Bool) (ri at':Nat) (r:Nat):Value :=
 if r<26 then .int .i64 (p r:Nat) else if r<52 then .int .i64 (b (r-26):Nat) else if r<78 then .bool (no (r-52)) else if r=78 then .int .i64 (ri:Nat) else .int .i64 (at':Nat)
def wlA (p b:Nat→Nat) (no:Nat→Bool) (ri at':Nat):Array Value:=tab 80 (wcl p b no ri at')
theorem wlA_size (p b:Nat→Nat) (no:Nat→Bool) (ri at':Nat):(wlA p b no ri at').size=80:=tab_size _ _
theorem wlA_one (p b:Nat→Nat) (no:Nat→Bool) (ri at':Nat):(wlA p b no ri at').all (·.oneCell')=true:=by
 rw[Array.all_eq_true_iff_forall_mem]
 intro v hv
 simp[wlA,tab] at hv
 obtain ⟨i,_,rfl⟩:=hv
 unfold wcl
 split
 ·rfl
 split
 ·rfl
 split
 ·rfl
 split <;> rfl
theorem wlA_no (p b:Nat→Nat) (no:Nat→Bool) (ri at':Nat) {k:Nat} (hk:k<26):(wlA p b no ri at').setIfInBounds (52+k) (.bool true)=wlA p b (upd no k true) ri at':=by
 unfold wlA
 rw[tab_set]
 refine tab_ext fun i hi=>?_
 by_cases e:i=52+k
 ·subst e
  rw[upd_same]
  unfold wcl
  rw[if_neg (by omega),if_neg (by omega),if_pos (by omega),show 52+k-52=k by omega,upd_same]
 ·rw[upd_other _ _ e]
  unfold wcl
  by_cases h:52≤i∧i<78
  ·rw[if_neg (by omega),if_neg (by omega),if_pos h.2,if_neg (by omega),if_neg (by omega),if_pos h.2,upd_other _ _ (by omega)]
  ·split
   ·rfl
   split
   ·rfl
   have h78:¬i<78:=by omega
   rw[if_neg h78,if_neg h78]
def rotC (M:Om.Ma) (at':Nat→Nat) (m:Nat) (i:Nat):Value :=
 if i<320 then (if i / 80<m then wcl (M.wi (i / 80)) (Pm.inv (M.wi (i / 80))) (fun c=>(M.no (i / 80)).contains c) (M.ri (i / 80)) (at' (i / 80)) (i % 80) else wcl (fun _=>0) (fun _=>0) (fun _=>false) 0 0 (i % 80))
 else if i=320 then .int .i64 (M.n:Nat) else if i<347 then .int .i64 (M.rf (i-321):Nat) else .int .i64 (M.pl (i-347):Nat)
def rotA (M:Om.Ma) (at':Nat→Nat) (m:Nat):Array Value:=tab 373 (rotC M at' m)
theorem rotA_size (M:Om.Ma) (at':Nat→Nat) (m:Nat):(rotA M at' m).size=373:=tab_size _ _
section
variable {M:Om.Ma} {at':Nat→Nat} {m:Nat}
theorem rot_wheel {q r:Nat} (hq:q<m) (hm:m≤4) (hr:r<80):(rotA M at' m)[q*80+r]? = some (wcl (M.wi q) (Pm.inv (M.wi q)) (fun c=>(M.no q).contains c) (M.ri q) (at' q) r):=by
 unfold rotA
 rw[tab_get _ (by omega)]
 unfold rotC
 rw[if_pos (by omega),show (q*80+r) / 80=q by omega,show (q*80+r) % 80=r by omega,if_pos hq]
theorem rot_there {q c:Nat} (hq:q<m) (hm:m≤4) (hc:c<26):(rotA M at' m)[q*80+c]? = some (.int .i64 (M.wi q c:Nat)):=by
 rw[rot_wheel hq hm (by omega)];unfold wcl;rw[if_pos hc]
theorem rot_back {q c:Nat} (hq:q<m) (hm:m≤4) (hc:c<26):(rotA M at' m)[q*80+26+c]? = some (.int .i64 (Pm.inv (M.wi q) c:Nat)):=by
 rw[Nat.add_assoc,rot_wheel hq hm (by omega)];unfold wcl;rw[if_neg (by omega),if_pos (by omega),show 26+c-26=c by omega]
theorem rot_no {q c:Nat} (hq:q<m) (hm:m≤4) (hc:c<26):(rotA M at' m)[q*80+52+c]? = some (.bool ((M.no q).contains c)):=by
 rw[Nat.add_assoc,rot_wheel hq hm (by omega)];unfold wcl;rw[if_neg (by omega),if_neg (by omega),if_pos (by omega),show 52+c-52=c by omega]
theorem rot_ri {q:Nat} (hq:q<m) (hm:m≤4):(rotA M at' m)[q*80+78]? = some (.int .i64 (M.ri q:Nat)):=by
 rw[rot_wheel hq hm (by omega)];unfold wcl;rw[if_neg (by omega),if_neg (by omega),if_neg (by omega),if_pos rfl]
theorem rot_at {q:Nat} (hq:q<m) (hm:m≤4):(rotA M at' m)[q*80+79]? = some (.int .i64 (at' q:Nat)):=by
 rw[rot_wheel hq hm (by omega)];unfold wcl;rw[if_neg (by omega),if_neg (by omega),if_neg (by omega),if_neg (by omega)]
theorem rot_n:(rotA M at' m)[320]? = some (.int .i64 (M.n:Nat)):=by
 unfold rotA
 rw[tab_get _ (by omega)]
 unfold rotC
 rw[if_neg (by omega),if_pos rfl]
theorem rot_rf {c:Nat} (hc:c<26):(rotA M at' m)[321+c]? = some (.int .i64 (M.rf c:Nat)):=by
 unfold rotA
 rw[tab_get _ (by omega)]
 unfold rotC
 rw[if_neg (by omega),if_neg (by omega),if_pos (by omega),show 321+c-321=c by omega]
theorem rot_pl {c:Nat} (hc:c<26):(rotA M at' m)[347+c]? = some (.int .i64 (M.pl c:Nat)):=by
 unfold rotA
 rw[tab_get _ (by omega)]
 unfold rotC
 rw[if_neg (by omega),if_neg (by omega),if_neg (by omega),show 347+c-347=c by omega]
theorem rot_set {q:Nat} (hq:q<m) (v:Nat):(rotA M at' m).setIfInBounds (q*80+79) (.int .i64 (v:Nat))=rotA M (upd at' q v) m:=by
 unfold rotA
 rw[tab_set]
 refine tab_ext fun i hi=>?_
 by_cases e:i=q*80+79
 ·subst e
  rw[upd_same]
  unfold rotC
  rw[if_pos (by omega),show (q*80+79) / 80=q by omega,show (q*80+79) % 80=79 by omega,if_pos hq]
  unfold wcl
  rw[if_neg (by omega),if_neg (by omega),if_neg (by omega),if_neg (by omega),upd_same]
 ·rw[upd_other _ _ e]
  unfold rotC
  by_cases h1:i<320
  ·rw[if_pos h1,if_pos h1]
   by_cases h2:i / 80<m
   ·rw[if_pos h2,if_pos h2]
    by_cases h3:i / 80=q
    ·have h4:i % 80≠79:=by omega
     have h5:i % 80<79:=by omega
     generalize i % 80=r at h4 h5
     unfold wcl
     split
     ·rfl
     split
     ·rfl
     split
     ·rfl
     rw[if_pos (by omega),if_pos (by omega)]
    ·rw[upd_other _ _ h3]
   ·rw[if_neg h2,if_neg h2]
  ·rw[if_neg h1,if_neg h1]
end
structure RotAt (W:World) (b:Nat) (M:Om.Ma) (at':Nat→Nat):Prop where
 row:RowAt W b 191 (rotA M at' M.n)
 ok:Om.Ok M
 ins:Om.In26 M at'
section
variable {w W:World} {b:Nat} {M:Om.Ma} {at':Nat→Nat}
theorem RotAt.below (h:RotAt w b M at') (hb:Below w.heap.size w W):RotAt W b M at':=⟨h.row.below hb h.row.lt,h.ok,h.ins⟩
theorem RotAt.alloc (h:RotAt w b M at') (o:Obj):RotAt (w.alloc o) b M at':=⟨h.row.alloc o,h.ok,h.ins⟩
theorem RotAt.drew (h:RotAt w b M at'):RotAt w.drew b M at':=⟨h.row,h.ok,h.ins⟩
theorem RotAt.there (h:RotAt w b M at') {q c:Nat} (hq:q<M.n) (hc:c<26):w.cell? ⟨b,q*80+c,none⟩=some (.int .i64 (M.wi q c:Nat)):=h.row.cell (rot_there hq h.ok.most hc)
theorem RotAt.back (h:RotAt w b M at') {q c:Nat} (hq:q<M.n) (hc:c<26):w.cell? ⟨b,q*80+26+c,none⟩=some (.int .i64 (Pm.inv (M.wi q) c:Nat)):=h.row.cell (rot_back hq h.ok.most hc)
theorem RotAt.no (h:RotAt w b M at') {q c:Nat} (hq:q<M.n) (hc:c<26):w.cell? ⟨b,q*80+52+c,none⟩=some (.bool ((M.no q).contains c)):=h.row.cell (rot_no hq h.ok.most hc)
theorem RotAt.ring (h:RotAt w b M at') {q:Nat} (hq:q<M.n):w.cell? ⟨b,q*80+78,none⟩=some (.int .i64 (M.ri q:Nat)):=h.row.cell (rot_ri hq h.ok.most)
theorem RotAt.window (h:RotAt w b M at') {q:Nat} (hq:q<M.n):w.cell? ⟨b,q*80+79,none⟩=some (.int .i64 (at' q:Nat)):=h.row.cell (rot_at hq h.ok.most)
theorem RotAt.many (h:RotAt w b M at'):w.cell? ⟨b,320,none⟩=some (.int .i64 (M.n:Nat)):=h.row.cell rot_n
theorem RotAt.refl (h:RotAt w b M at') {c:Nat} (hc:c<26):w.cell? ⟨b,321+c,none⟩=some (.int .i64 (M.rf c:Nat)):=h.row.cell (rot_rf hc)
theorem RotAt.plug (h:RotAt w b M at') {c:Nat} (hc:c<26):w.cell? ⟨b,347+c,none⟩=some (.int .i64 (M.pl c:Nat)):=h.row.cell (rot_pl hc)
theorem RotAt.turn (h:RotAt w b M at') {q:Nat} (hq:q<M.n) {v:Nat} (hv:v<26):RotAt (w.setCell ⟨b,q*80+79,none⟩ (.int .i64 (v:Nat))) b M (upd at' q v):=⟨by
 have:=h.row.set (q*80+79) (.int .i64 (v:Nat))
 rw[rot_set hq] at this
 exact this,h.ok,fun i hi=>by
  unfold upd
  by_cases e:i=q
  ·rw[if_pos e];exact hv
  ·rw[if_neg e];exact h.ins i hi⟩
end
end Go.Proofs.YtkohhdkkbaifoaaGreatDoor

/-
  Contracts of the document's inside and Notched (chapter 8).
-/
namespace Go.Proofs.YtkohhdkkbaifoaaGreatDoor
open Go.RowKit PK

theorem ins_upto {n:Nat} {f:Nat→Int} {k:Nat} (hk:k<n) (h:f k<0∨25<f k):ins n f=false:=by
 cases e:ins n f with
 | false=>rfl
 | true=>have:=(ins_iff n f).1 e k hk;omega
set_option maxRecDepth 100000 in
set_option maxHeartbeats 1000000 in
theorem rinside_any (v:Value) (n:Nat) (f:Nat→Int) (w:World) (hv:NumsAt w v n f):Calls Tryz.prog 71 #[v] w fun e w'=>e=.returned (.bool (ins n f))∧w=w':=by
 obtain ⟨a,cap,rfl,hm,hc⟩:=hv
 have HC:=(show Hid _ from hc)
 unfold maxLen at hm
 clear hc
 have HU:=(show Hid (∀k,k<n→(f k<0∨25<f k)→ins n f=false) from fun k hk h=>ins_upto hk h)
 have HA:=(show Hid ((∀i,i<n→0≤f i∧f i≤25)→ins n f=true) from (ins_iff n f).2)
 generalize ins n f=B at *
 go_enter Tryz.func71,Tryz.ntmps71
 go_wp2_with fail
 go_loopw [7] (fun i W=>∃k:Nat,k≤n∧i=.int .i64 (k:Nat)∧Hid (∀i,i<k→0≤f i∧f i≤25)∧w=W) (fun i _=>((n:Int)-intOf i).toNat)
 case atStart=>exact ⟨0,by omega,rfl,fun i hi=>by omega,rfl⟩
 case round =>
  obtain ⟨k,hk,rfl,HS,rfl⟩:=hrel
  by_cases hlt:k<n
  ·obtain ⟨b,o,rfl,hc0⟩:=HC.out k hlt
   have HLT:Hid (k<n):=hlt
   by_cases hx:f k<0
   ·have HB:Hid (B=false):=HU.out k hlt (.inl hx)
    go_wp2
    go_ret
    exact ⟨by rw[HB.out];rfl,rfl⟩
   ·by_cases hy:25<f k
    ·have HB:Hid (B=false):=HU.out k hlt (.inr hy)
     go_wp2
     go_ret
     exact ⟨by rw[HB.out];rfl,rfl⟩
    ·have HN:Hid (∀i,i<k+1→0≤f i∧f i≤25):=fun i hi=>by
      by_cases e:i=k
      ·rw[e];omega
      ·exact HS.out i (by omega)
     go_wp2_with fail
     go_roundw
     case rel=>exact ⟨k+1,HLT.out,by go_num,HN.out,by first | rfl | trivial⟩
     case measure=>have:=HLT.out;simp[intOf] <;> omega
  ·obtain rfl:k=n:=by omega
   have hlt2:¬(k:Int)<(k:Int):=by omega
   have HB:Hid (B=true):=HA.out HS.out
   go_wp2
   go_ret
   exact ⟨by rw[HB.out];rfl,rfl⟩
def hasN (n:Nat) (f:Nat→Int) (a:Int):Bool:=(List.range n).any fun i=>f i==a
theorem hasN_true {n:Nat} {f:Nat→Int} {a:Int} {k:Nat} (hk:k<n) (h:f k=a):hasN n f a=true:=by
 unfold hasN
 rw[List.any_eq_true]
 exact ⟨k,by simpa using hk,by simp[h]⟩
theorem hasN_false {n:Nat} {f:Nat→Int} {a:Int} (h:∀k,k<n→f k≠a):hasN n f a=false:=by
 unfold hasN
 rw[List.any_eq_false]
 intro k hk
 have:=h k (by simpa using hk)
 simpa using this
set_option maxRecDepth 100000 in
set_option maxHeartbeats 1000000 in
theorem rnotched_any (u:Nat→Int) (v:Value) (n:Nat) (f:Nat→Int) (a:Int) (w:World) (hv:NumsAt w v n f):Calls Tryz.prog 181 #[.agg (whl u v),.int .i64 a] w fun e w'=>e=.returned (.bool (hasN n f a))∧Below w.heap.size w w':=by
 have hr:=RowAt.new w 97 (whl u v)
 have hl:=hr.cell (whl_last u v)
 have hbe:Below w.heap.size w (w.alloc (.cells (whl u v) 97)):=(Below.refl _ w).alloc (Nat.le_refl _) _
 replace hv:=hv.alloc (.cells (whl u v) 97)
 obtain ⟨ad,cap,rfl,hm,hc⟩:=hv
 have HC:=(show Hid _ from hc)
 unfold maxLen at hm
 clear hc
 have HU:=(show Hid (∀k,k<n→f k=a→hasN n f a=true) from fun k hk h=>hasN_true hk h)
 have HA:=(show Hid ((∀k,k<n→f k≠a)→hasN n f a=false) from hasN_false)
 generalize hasN n f a=B at *
 go_enter Tryz.func181,Tryz.ntmps181
 go_wp2_with fail
 generalize w.alloc (.cells (whl u (.slice ad n cap)) 97)=V at *
 go_loopw [10] (fun i W=>∃k:Nat,k≤n∧i=.int .i64 (k:Nat)∧Hid (∀i,i<k→f i≠a)∧V=W) (fun i _=>((n:Int)-intOf i).toNat)
 case atStart=>exact ⟨0,by omega,rfl,fun i hi=>by omega,rfl⟩
 case round =>
  obtain ⟨k,hk,rfl,HS,rfl⟩:=hrel
  by_cases hlt:k<n
  ·obtain ⟨b,o,rfl,hc0⟩:=HC.out k hlt
   have HLT:Hid (k<n):=hlt
   by_cases hx:f k=a
   ·have HB:Hid (B=true):=HU.out k hlt hx
    have hx2:(f k==a)=true:=by simp[hx]
    clear hx
    go_wp2
    go_ret
    exact ⟨by rw[HB.out];rfl,hbe⟩
   ·have HN:Hid (∀i,i<k+1→f i≠a):=fun i hi=>by
     by_cases e:i=k
     ·rw[e];exact hx
     ·exact HS.out i (by omega)
    have hx2:(f k==a)=false:=beq_false_of_ne hx
    clear hx
    go_wp2_with fail
    go_roundw
    case rel=>exact ⟨k+1,HLT.out,by go_num,HN.out,by first | rfl | trivial⟩
    case measure=>have:=HLT.out;simp[intOf] <;> omega
  ·obtain rfl:k=n:=by omega
   have hlt2:¬(k:Int)<(k:Int):=by omega
   have HB:Hid (B=false):=HA.out HS.out
   go_wp2
   go_ret
   exact ⟨by rw[HB.out];rfl,hbe⟩
end Go.Proofs.YtkohhdkkbaifoaaGreatDoor

/-
  Contracts of rotor's small functions.
-/
namespace Go.Proofs.YtkohhdkkbaifoaaGreatDoor
open Go.RowKit PK Vg

def isN (n:Int):Bool:=decide (0≤n∧n≤25)
set_option maxHeartbeats 400000 in
theorem isLetter8_any (c:Int) (w:World):Calls Tryz.prog 115 #[.int .i64 c] w fun e w'=>e=.returned (.bool (isN c))∧w=w':=by
 by_cases h1:0≤c
 ·by_cases h2:c<26
  ·have e:isN c=true:=by simp[isN];omega
   go_enter Tryz.func115,Tryz.ntmps115
   go_wp2
   go_ret
   exact ⟨by rw[e];rfl,rfl⟩
  ·have e:isN c=false:=by simp[isN];omega
   go_enter Tryz.func115,Tryz.ntmps115
   go_wp2
   go_ret
   exact ⟨rfl,rfl⟩
 ·have e:isN c=false:=by simp[isN];omega
  go_enter Tryz.func115,Tryz.ntmps115
  go_wp2
  go_ret
  exact ⟨rfl,rfl⟩
set_option maxRecDepth 100000 in
set_option maxHeartbeats 1000000 in
theorem areLetters_any (v:Value) (n:Nat) (f:Nat→Int) (w:World) (hv:NumsAt w v n f):Calls Tryz.prog 68 #[v] w fun e w'=>e=.returned (.bool (ins n f))∧w=w':=by
 obtain ⟨a,cap,rfl,hm,hc⟩:=hv
 have HC:=(show Hid _ from hc)
 unfold maxLen at hm
 clear hc
 have HU:=(show Hid (∀k,k<n→(f k<0∨25<f k)→ins n f=false) from fun k hk h=>ins_upto hk h)
 have HA:=(show Hid ((∀i,i<n→0≤f i∧f i≤25)→ins n f=true) from (ins_iff n f).2)
 generalize ins n f=B at *
 go_enter Tryz.func68,Tryz.ntmps68
 go_wp2_with fail
 go_loopw [7] (fun i W=>∃k:Nat,k≤n∧i=.int .i64 (k:Nat)∧Hid (∀i,i<k→0≤f i∧f i≤25)∧w=W) (fun i _=>((n:Int)-intOf i).toNat)
 case atStart=>exact ⟨0,by omega,rfl,fun i hi=>by omega,rfl⟩
 case round =>
  obtain ⟨k,hk,rfl,HS,rfl⟩:=hrel
  by_cases hlt:k<n
  ·obtain ⟨b,o,rfl,hc0⟩:=HC.out k hlt
   have HLT:Hid (k<n):=hlt
   by_cases hx:isN (f k)=true
   ·have hx3:0≤f k∧f k≤25:=by simpa [isN] using hx
    have HN:Hid (∀i,i<k+1→0≤f i∧f i≤25):=fun i hi=>by
     by_cases e:i=k
     ·rw[e];exact hx3
     ·exact HS.out i (by omega)
    have HL:=(show Hid (∀W,Calls Tryz.prog 115 #[.int .i64 (f k)] W fun e w'=>e=.returned (.bool true)∧W=w') from fun W=>by have:=isLetter8_any (f k) W;rw[hx] at this;exact this)
    clear hx hx3
    go_wp2_with fail
    refine (HL.out _).mono ?_
    rintro e V ⟨rfl,rfl⟩
    go_wp2_with fail
    go_roundw
    case rel=>exact ⟨k+1,HLT.out,by go_num,HN.out,by first | rfl | trivial⟩
    case measure=>have:=HLT.out;simp[intOf] <;> omega
   ·have hx2:isN (f k)=false:=by simpa using hx
    have hx3:f k<0∨25<f k:=by
     have:¬(0≤f k∧f k≤25):=by simpa [isN] using hx
     omega
    have HB:Hid (B=false):=HU.out k hlt hx3
    have HL:=(show Hid (∀W,Calls Tryz.prog 115 #[.int .i64 (f k)] W fun e w'=>e=.returned (.bool false)∧W=w') from fun W=>by have:=isLetter8_any (f k) W;rw[hx2] at this;exact this)
    clear hx hx2 hx3
    go_wp2_with fail
    refine (HL.out _).mono ?_
    rintro e V ⟨rfl,rfl⟩
    go_wp2
    go_ret
    exact ⟨by rw[HB.out];rfl,rfl⟩
  ·obtain rfl:k=n:=by omega
   have hlt2:¬(k:Int)<(k:Int):=by omega
   have HB:Hid (B=true):=HA.out HS.out
   go_wp2
   go_ret
   exact ⟨by rw[HB.out];rfl,rfl⟩
set_option maxHeartbeats 400000 in
theorem number_any (c:UInt8) (h:65≤c.toNat∧c.toNat≤90) (w:World):Calls Tryz.prog 135 #[.int .u8 (c.toNat:Nat)] w fun e w'=>e=.returned (.int .i64 (Vg.num c:Nat))∧w=w':=by
 have e:(Vg.num c:Int)=(c.toNat:Int)-65:=by unfold Vg.num;omega
 go_enter Tryz.func135,Tryz.ntmps135
 go_wp2
 go_ret
 exact ⟨by rw[e];go_num,rfl⟩
set_option maxHeartbeats 400000 in
theorem letter_any (n:Nat) (h:n<26) (w:World):Calls Tryz.prog 133 #[.int .i64 (n:Nat)] w fun e w'=>e=.returned (.int .u8 ((ltr n).toNat:Nat))∧w=w':=by
 have e:=ltr_toNat h
 go_enter Tryz.func133,Tryz.ntmps133
 go_wp2
 go_ret
 exact ⟨by rw[e];go_num,rfl⟩
set_option maxHeartbeats 400000 in
theorem thr_any (b o:Nat) (p:Nat→Nat) (y c:Nat) (hy:y<26) (hc:c<26) (hp:∀c,c<26→p c<26) (w:World) (hcell:∀c,c<26→w.cell? ⟨b,o+c,none⟩=some (.int .i64 (p c:Nat))):Calls Tryz.prog 177 #[.pointer (some ⟨b,o,none⟩),.int .i64 (y:Nat),.int .i64 (c:Nat)] w fun e w'=>e=.returned (.int .i64 (Om.wheel p y c:Nat))∧w=w':=by
 have hm:(c+y) % 26<26:=Nat.mod_lt _ (by decide)
 have h1:=hcell _ hm
 have h2:=hp _ hm
 have HE:Hid (Om.wheel p y c=(p ((c+y) % 26)+26-y) % 26):=rfl
 generalize Om.wheel p y c=E at *
 generalize p ((c+y) % 26)=P1 at *
 obtain ⟨q,hq⟩:∃q,q=(c+y) % 26:=⟨_,rfl⟩
 rw[←hq] at h1 hm
 have e1:((c:Int)+(y:Int)).tmod 26=(q:Int):=by rw[Int.tmod_eq_emod_of_nonneg (by omega)];omega
 have e2:((P1:Int)-(y:Int)+26).tmod 26=(E:Int):=by rw[HE.out,Int.tmod_eq_emod_of_nonneg (by omega)];omega
 clear HE hq hcell hp
 go_enter Tryz.func177,Tryz.ntmps177
 go_wp2
 go_ret
 exact ⟨rfl,rfl⟩
set_option maxHeartbeats 400000 in
theorem by_any (b q:Nat) (M:Om.Ma) (at':Nat→Nat) (hq:q<M.n) (w:World) (h:RotAt w b M at'):Calls Tryz.prog 178 #[.pointer (some ⟨b,q*80,none⟩)] w fun e w'=>e=.returned (.int .i64 (Om.by' M at' q:Nat))∧Below w.heap.size w w':=by
 have hw:=h.window hq
 have hr:=h.ring hq
 have h1:=h.ins q hq
 have h2:=h.ok.ri q hq
 have HE:Hid (Om.by' M at' q=(at' q+26-M.ri q) % 26):=rfl
 generalize Om.by' M at' q=E at *
 generalize at' q=A at *
 generalize M.ri q=R at *
 have e2:((A:Int)-(R:Int)+26).tmod 26=(E:Int):=by rw[HE.out,Int.tmod_eq_emod_of_nonneg (by omega)];omega
 clear HE h
 go_enter Tryz.func178,Tryz.ntmps178
 go_wp2_with fail
 go_quiet (fail)
 go_wp2
 go_ret
 exact ⟨rfl,⟨rfl,rfl,rfl,Nat.le_refl _,fun _ _=>rfl⟩⟩
end Go.Proofs.YtkohhdkkbaifoaaGreatDoor
