import Derived.Deep.OwnRows
import Derived.Lib.SmallJoins
import Derived.BigQuiet
import Derived.Laws.EntriesVeiled
import Derived.Laws.AppendOwnNone
import Derived.Deep.RegionHeld3
import Derived.Deep.DeepCutAuto
import Derived.Test.YtpdemelchhkfaaaJn9
namespace Go.Proofs.Ytpdemelchhkfaaa
namespace PK
open Go.RowKit
def aX (w:World) (v:Value) (n:Nat) (f:Nat→Int):Prop :=
 ∃(a:Option Addr) (cap:Nat),v=.slice a n cap∧n≤maxLen∧∀c,c<n→∃b o,a=some ⟨b,o,none⟩∧w.cell? ⟨b,o+c,none⟩=some (.int .i64 (f c))
theorem cg {w:World} {a:Addr} {v:Value} (h:w.cell? a=some v):a.block<w.heap.size:=World.block_lt_of_cell? _ _ h
theorem aX.below {w w':World} {v:Value} {n:Nat} {f:Nat→Int} (h:aX w v n f) (hb:Below w.heap.size w w'):aX w' v n f:=by
 obtain ⟨a,cap,h1,h2,h3⟩:=h
 refine ⟨a,cap,h1,h2,fun c hc=>?_⟩
 obtain ⟨b,o,e,hcell⟩:=h3 c hc
 exact ⟨b,o,e,(hb.cell (p:=⟨b,o+c,none⟩) (cg hcell)).trans hcell⟩
end PK
section
open Go.RowKit PK
section
variable {P:Program} {ops:Array Oper} {Q:Exit→Act→World→Prop} {md:Region.Mode} {S:World→Prop}
theorem Dt (i d:Nat) (v:Value) {oi:Oper} {fuel:Nat} {listed:Array Bool} {tm:Array Value} {df:List Deferred} {w:World} (hi:ops[i]? = some oi) (hd:oi.dst=some d)
  (hs:Region.noSelect ops=true) (hf:Region.free md ops listed i=true) (hr:(Region.ready md ops listed).contains i=true)
  (hQ:∀c a a' w,Q (.panic c) a' w→Q (.panic c) a w) (hw:Region.wanted oi (yielded ops tm)=true) (hrun:∀W,S W→(execOp (Act.eval ⟨tm,df⟩) oi).run P W=.ok (.value v) W) (hS:S w)
  (h:wpAnyH P md ops Q S fuel (listed.setIfInBounds i true) ⟨tm.setIfInBounds d v,df⟩ w):wpAnyH P md ops Q S (fuel+1) listed ⟨tm,df⟩ w:=by
 refine wpAnyH_take (i:=i) (oi:=oi) (v:=v) hi hs hf hr (fun c a w=>hQ c a _ w) (Or.inl ⟨hw,fun W hW=>hrun W hW⟩) hS ?_
 rw[hd]
 exact h
end
theorem oT {P:Program} {e:TypeId} {z:Value} {s b:Nat} (h:(P.info? e).map (fun i=>(i.zero,i.size,i.bytes))=some (some z,s,b)):∃i,P.info? e=some i∧i.zero=some z∧i.size=s∧i.bytes=b:=by
 obtain ⟨i,hi,hzz⟩:=Option.map_eq_some_iff.1 h
 simp only[Prod.mk.injEq] at hzz
 exact ⟨i,hi,hzz.1,hzz.2.1,hzz.2.2⟩
theorem oA {P:Program} {t:TypeId} {z:Value} (h:(P.info? t).map (·.zero)=some (some z)) (w:World):(zeroValue t).run P w=.ok z w:=by
 cases hi:P.info? t with
 | none=>simp[hi] at h
 | some i =>
  have h2:i.zero=some z:=by simpa [hi] using h
  simp[zeroValue,typeInfo,hi,h2]
end
namespace Pm
def bad (f:Nat→Int) (i:Nat):Int:=if f i<0∨26≤f i then 3 else if (List.range i).any (fun j=>f j==f i) then 8 else 0
def cL (f:Nat→Int):Nat→Int
 | 0=>0
 | n+1=>if cL f n≠0 then cL f n else bad f n
def dK (f:Nat→Int):Int:=cL f 26
theorem kT (f : Nat → Int) (k n : Nat) (h : cL f k ≠ 0) (hn : k ≤ n) : cL f n = cL f k := by
  induction n with
  | zero => have : k = 0 := by omega
            subst this; rfl
  | succ n ih =>
    by_cases e : k = n + 1
    · rw [e]
    · have := ih (by omega)
      show (if cL f n ≠ 0 then cL f n else bad f n) = _
      rw [this, if_pos h]
theorem dZ (f:Nat→Int) (k:Nat) (h:cL f k=0):cL f (k+1)=bad f k:=by
 show (if cL f k≠0 then cL f k else bad f k)=_
 rw[if_neg (by simp[h])]
theorem gC (f:Nat→Int) (k:Nat) (h:cL f k=0) (hb:bad f k≠0) (hk:k<26):dK f=bad f k:=by
 have h1:=dZ f k h
 have:=kT f (k+1) 26 (by rw[h1];exact hb) (by omega)
 unfold dK
 rw[this,h1]
theorem nK (f:Nat→Int) (k:Nat) (h:cL f k=0) (hk:k=26):dK f=0:=by subst hk;exact h
def seen (f:Nat→Int) (k:Nat) (v:Nat):Bool:=(List.range k).any (fun j=>f j==(v:Int))
theorem nV (f:Nat→Int) (k v:Nat):seen f (k+1) v=(seen f k v || f k==(v:Int)):=by
 simp[seen,List.range_succ,List.any_append]
theorem iK (f:Nat→Int) (i:Nat) (h:f i<0∨26≤f i):bad f i=3:=by simp[bad,h]
theorem uh (f:Nat→Int) (i n:Nat) (h:f i=(n:Int)) (hn:n<26) (hs:seen f i n=true):bad f i=8:=by
 unfold bad
 rw[if_neg (by omega),if_pos (by rw[h];exact hs)]
theorem wT (f:Nat→Int) (i n:Nat) (h:f i=(n:Int)) (hn:n<26) (hs:seen f i n=false):bad f i=0:=by
 unfold bad
 rw[if_neg (by omega),if_neg (by rw[h];simpa [seen] using hs)]
theorem kH (f:Nat→Int):∀n,cL f n=0↔∀i,i<n→bad f i=0
 | 0=>by simp[cL]
 | n+1=>by
  have ih:=kH f n
  constructor
  ·intro h i hi
   by_cases e:cL f n=0
   ·rw[dZ f n e] at h
    by_cases e2:i=n
    ·rw[e2];exact h
    ·exact ih.1 e i (by omega)
   ·exact absurd ((kT f n (n+1) e (by omega)).symm.trans h) e
  ·intro h
   rw[dZ f n (ih.2 fun i hi=>h i (by omega))]
   exact h n (by omega)
theorem gM (f:Nat→Int) (i:Nat):bad f i=0↔(0≤f i∧f i<26∧∀j,j<i→f j≠f i):=by
 unfold bad
 by_cases h1:f i<0∨26≤f i
 ·rw[if_pos h1]
  constructor
  ·intro h;exact absurd h (by decide)
  ·intro ⟨a,b,_⟩;omega
 ·rw[if_neg h1]
  by_cases h2:(List.range i).any (fun j=>f j==f i)=true
  ·rw[if_pos h2]
   simp at h2
   obtain ⟨j,hj,e⟩:=h2
   constructor
   ·intro h;exact absurd h (by decide)
   ·intro ⟨_,_,c⟩;exact absurd e (c j hj)
  ·rw[if_neg h2]
   simp at h2
   simp only[true_iff]
   exact ⟨by omega,by omega,h2⟩
structure A8 (p:Nat→Nat):Prop where
 lt:∀i,i<26→p i<26
 inj:∀i j,i<26→j<26→p i=p j→i=j
def up (p:Nat→Nat):Nat→Int:=fun i=>(p i:Int)
theorem mR (f:Nat→Int):dK f=0↔∃p,A8 p∧∀i,i<26→f i=(p i:Int):=by
 unfold dK
 rw[kH]
 constructor
 ·intro h
  refine ⟨fun i=>(f i).toNat,⟨fun i hi=>?_,fun i j hi hj e=>?_⟩,fun i hi=>?_⟩
  ·have:=(gM f i).1 (h i hi);show (f i).toNat<26;omega
  ·have h1:=(gM f i).1 (h i hi)
   have h2:=(gM f j).1 (h j hj)
   have e':f i=f j:=by have e:(f i).toNat=(f j).toNat:=e;omega
   rcases Nat.lt_trichotomy i j with c | c | c
   ·exact absurd e' (h2.2.2 i c)
   ·exact c
   ·exact absurd e'.symm (h1.2.2 j c)
  ·have:=(gM f i).1 (h i hi);show f i=((f i).toNat:Int);omega
 ·rintro ⟨p,hp,he⟩ i hi
  rw[gM,he i hi]
  have:=hp.lt i hi
  refine ⟨by omega,by omega,fun j hj=>?_⟩
  rw[he j (by omega)]
  intro e
  have:=hp.inj j i (by omega) hi (by omega)
  omega
end Pm
section
open Go.RowKit PK
theorem an:(Try.prog.info? 38).map (·.size)=some 26:=by kernel_rfl
theorem fS:(Try.prog.info? 3).map (·.size)=some 1:=by kernel_rfl
theorem wX (f:Nat→Int) (k n:Nat) (h:f k=(n:Int)):iq 26 (upd (Pm.seen f k) n true)=iq 26 (Pm.seen f (k+1)):=uJ fun i _=>by
 rw[Pm.nV,h]
 by_cases e:i=n
 ·subst e;simp
 ·rw[nU _ _ e]
  have:(n:Int)≠(i:Int):=by omega
  simp[this]
set_option maxHeartbeats 1000000 in
theorem vw (f:Nat→Int) (w:World):Calls Try.prog 29 #[.agg (ints 26 f)] w fun e w'=>e=.returned (.int .i64 (Pm.dK f))∧Below w.heap.size w w':=by
 go_enter Try.func29,Try.ntmps29
 go_wp2_with (refine wpList_load_row rfl 38 _ rfl w.heap.size rfl 38 (ints 26 f) (0,0) _ ((ai.new w _ _).alloc _) Try.underlying38 rfl (by rw[af];exact an) ?_)
 rw[AH]
 go_loopw [7] (fun i W=>∃k:Nat,k≤26∧i=.int .i64 k∧Hid (Pm.cL f k=0)∧ai W (w.heap.size+1) 97 (iq 26 (Pm.seen f k))∧Below w.heap.size w W) (fun i _=>(26-intOf i).toNat)
 case atStart =>
  refine ⟨0,by omega,rfl,rfl,?_,((Below.refl _ _).alloc (Nat.le_refl _) _).alloc (by simp) _⟩
  have:=ai.new (w.alloc (Obj.cells (ints 26 f) 38)) 97 (iq 26 fun x=>false)
  rw[World.size_alloc] at this
  exact this
 case round =>
  obtain ⟨k,hk,rfl,HN,hrow,hb⟩:=hrel
  by_cases hlt:k<26
  ·have hg:=iu 38 3 26 Try.underlying38 Try.underlying3 fS f k hlt
   by_cases hr:f k<0∨26≤f k
   ·have H:Hid (Pm.dK f=3):=by rw[Hid,Pm.gC f k HN.out (by rw[Pm.iK f k hr];decide) hlt,Pm.iK f k hr]
    rcases hr with hr | hr
    ·go_wp2
     go_ret
     exact ⟨fD H.out.symm,hb⟩
    ·have hr0:¬f k<0:=by omega
     go_wp2
     go_ret
     exact ⟨fD H.out.symm,hb⟩
   ·obtain ⟨n,hn⟩:∃n:Nat,f k=n:=⟨(f k).toNat,by omega⟩
    have hn26:n<26:=by omega
    have HM:Hid (f k=n):=hn
    rw[hn] at hg
    clear hr hn
    have hc:=hrow.cell (vD (Pm.seen f k) hn26)
    have hf:=hrow.frozen n
    cases hs:Pm.seen f k n
    ·rw[hs] at hc
     have HS:Hid (Pm.seen f k n=false):=hs
     clear hs
     go_wp2
     go_roundw
     case rel =>
      refine ⟨k+1,by omega,by go_num,?_,?_,?_⟩
      ·rw[Hid,Pm.dZ f k HN.out,Pm.wT f k n HM.out hn26 HS.out]
      ·rw[←wX f k n HM.out,←uU]
       exact hrow.set n _
      ·exact hb.setCell (by simp) _
     case measure=>simp[intOf];omega
    ·rw[hs] at hc
     have HS:Hid (Pm.dK f=8):=by
      have h8:=Pm.uh f k n HM.out hn26 hs
      rw[Hid,Pm.gC f k HN.out (by rw[h8];decide) hlt,h8]
     clear hs
     go_wp2
     go_ret
     exact ⟨fD HS.out.symm,hb⟩
  ·have HK:Hid (k=26):=by rw[Hid];omega
   go_wp2
   go_ret
   exact ⟨fD (Pm.nK f k HN.out HK.out).symm,hb⟩
end
namespace PK
open Go.RowKit
def lay (n:Nat) (g:Nat→Value) (o:Nat) (f:Nat→Int):Nat→Value:=fun i=>if o≤i∧i<o+n then .int .i64 (f (i-o)) else g i
theorem nY (N:Nat) (off:Nat):∀(l:List Value) (s:Nat) (g:Nat→Value),(l.zipIdx s).foldl (fun cs x=>cs.setIfInBounds (off+x.2) x.1) (tab N g)=tab N fun i=>if off+s≤i∧i<off+s+l.length then l.getD (i-(off+s)) (.bool false) else g i
 | [],s,g=>by
  simp only[List.zipIdx_nil,List.foldl_nil,List.length_nil]
  exact iD fun i _=>by rw[if_neg (by omega)]
 | v :: l,s,g=>by
  simp only[List.zipIdx_cons,List.foldl_cons]
  rw[oy,nY N off l (s+1)]
  refine iD fun i _=>?_
  by_cases h1:i=off+s
  ·subst h1
   rw[if_neg (by omega),if_pos (by simp)]
   simp
  ·by_cases h2:off+s≤i∧i<off+s+(v :: l).length
   ·have h3:off+(s+1)≤i∧i<off+(s+1)+l.length:=by simp at h2;omega
    rw[if_pos h3,if_pos h2]
    obtain ⟨j,hj⟩:∃j,i-(off+s)=j+1:=⟨i-(off+s)-1,by omega⟩
    have hj':i-(off+(s+1))=j:=by omega
    rw[hj,hj']
    simp
   ·rw[if_neg (by simp at h2;omega),if_neg h2]
    simp[upd,h1]
theorem vP (N:Nat) (h:Nat→Value):(Array.range N).map h=tab N h:=by
 apply Array.ext_getElem?
 intro i
 by_cases h1:i<N
 ·simp[tab,h1]
 ·simp[tab,h1]
section
variable {P:Program}
theorem bF {ops:Array Oper} {rest:List Oper} {op:Oper} {a:Act} {w:World} {Q:Exit→Act→World→Prop} (hgd:op.guard=none) (t:TypeId) (ho:op.op=.build t #[])
  (cells:Array Value) (hb:P.built t []=some cells) (h:wpList P ops Q rest (a.put op.dst (.agg cells)) w):wpList P ops Q (op :: rest) a w :=
 wpList_plain hgd fun _ hK=>by
  unfold Oper.wp execOp
  have hm:(#[]:Array (Nat × Operand)).map (fun (i,x)=>(i,a.eval x))=#[]:=by simp
  simp only[ho,Sem.run_bind,hm,run_build w t #[] cells hb,Result.andThen_ok]
  exact hK _ _ h
end
theorem aL {P:Program} {fn:Func} {p q:Tmp} {ty:TypeId} (h:fn.results=#[.cell p ty,.tmp q]) (tmps:Array Value) (w:World) (g:Nat) (t:TypeId) (cs:Array Value) (fr:Nat × Nat) (d:TypeDesc) (v:Value)
  (hp:tmps.getD p undef=.pointer (some ⟨g,0,none⟩)) (hv:tmps.getD q undef=v) (hg:w.heap[g]? = some (.cells cs t fr))
  (hu:P.underlying ty=some d) (hd:(match d with | .struct _ | .array _ _=>true | _=>false)=true) (hi:(P.info? ty).map (·.size)=some cs.size) :
  (results fn tmps).run P w=.ok (.tuple #[.agg cs,v]) w:=by
 have hp':tmps[p]?.getD undef=.pointer (some ⟨g,0,none⟩):=by simpa using hp
 have hv':tmps[q]?.getD undef=v:=by simpa using hv
 simp[results,h,hp',hv',asAddr,run_loadVar_row w g t ty cs fr d hg hu hd hi]
end PK
section
open Go.RowKit PK
section
variable {ops:Array Oper} {rest:List Oper} {op:Oper} {a:Act} {w:World} {Q:Exit→Act→World→Prop}
end
theorem lR (b k:Nat) (hk:k≤26) (W:World):(Instr.sliceAt 38 (.pointer (some ⟨b,0,none⟩)) none (some (.int .i64 (k:Int))) none).run Try.prog W=.ok (.slice (some ⟨b,0,none⟩) k 26) W:=by
 have ha:Try.prog.arrayLen 38=26:=by kernel_rfl
 have he:Try.prog.elem 38=3:=by kernel_rfl
 have h1:=run_sliceAt_array_h (P:=Try.prog) W 38 ⟨b,0,none⟩ (by rw[ha,he];exact Try.underlying38) .i64 (k:Int) (by omega) (by rw[ha];omega)
 rw[h1,ha,he]
 cases hq:Try.prog.info? 3 with
 | none=>have:=fS;simp[hq] at this
 | some i =>
  have hs:i.size=1:=by have:=fS;simpa [hq] using this
  simp[sizeOf,typeInfo,hq,hs,slicedAt,Addr.add_mid]
theorem so (f:Nat→Int) (w:World):Calls Try.prog 33 #[.agg (ints 26 f)] w fun e w'=>e=.returned (.int .i64 (Pm.dK f))∧Below w.heap.size w w':=by
 go_enter Try.func33,Try.ntmps33
 go_wp2_with (refine wpList_load_row rfl 38 _ rfl w.heap.size rfl 38 (ints 26 f) (0,0) _ (ai.new w _ _) Try.underlying38 rfl (by rw[af];exact an) ?_)
 have hrow:=ai.new w 38 (ints 26 f)
 have hb:Below w.heap.size w (w.alloc (.cells (ints 26 f) 38)):=(Below.refl _ _).alloc (Nat.le_refl _) _
 generalize w.alloc (.cells (ints 26 f) 38)=W at hrow hb ⊢
 go_loop [8] (fun i=>∃k:Nat,k≤26∧i=.int .i64 k∧Hid (Pm.cL f k=0)) (fun i=>(26-intOf i).toNat)
 case atStart=>exact ⟨0,by omega,rfl,rfl⟩
 case round =>
  obtain ⟨k,hk,rfl,HN⟩:=hrel
  by_cases hlt:k<26
  ·have hg:=iu 38 3 26 Try.underlying38 Try.underlying3 fS f k hlt
   by_cases hr:f k<0∨26≤f k
   ·have H:Hid (Pm.dK f=3):=by rw[Hid,Pm.gC f k HN.out (by rw[Pm.iK f k hr];decide) hlt,Pm.iK f k hr]
    rcases hr with hr | hr
    ·go_wp2
     go_ret
     exact ⟨fD H.out.symm,hb⟩
    ·have hr0:¬f k<0:=by omega
     have hr1:25<f k:=by omega
     go_wp2
     go_ret
     exact ⟨fD H.out.symm,hb⟩
   ·obtain ⟨n,hn⟩:∃n:Nat,f k=n:=⟨(f k).toNat,by omega⟩
    have hn26:n<26:=by omega
    have hn25:¬(25<n):=by omega
    have HM:Hid (f k=n):=hn
    rw[hn] at hg
    clear hr hn
    have hsl:=lR w.heap.size k (by omega)
    go_wp2
    clear hsl
    go_loop [21] (fun i=>∃m:Nat,m≤k∧i=.int .i64 m∧Hid (Pm.seen f m n=false)) (fun i=>(k-intOf i).toNat)
    case atStart=>exact ⟨0,by omega,rfl,rfl⟩
    case round =>
     obtain ⟨m,hm,rfl,HS⟩:=hrel
     by_cases hmk:m<k
     ·have hc:=hrow.cell (aG f (i:=m) (by omega))
      have hss:=Pm.nV f m n
      rw[HS.out,Bool.false_or] at hss
      cases he:(f m==(n:Int))
      ·rw[he] at hss
       have HSS:Hid (Pm.seen f (m+1) n=false):=hss
       clear hss
       go_wp2
       exact ⟨⟨m+1,by omega,by go_num,HSS⟩,by simp[intOf];omega⟩
      ·have hsk:Pm.seen f k n=true:=by
        unfold Pm.seen
        simp
        exact ⟨m,hmk,eq_of_beq he⟩
       have H8:Hid (Pm.dK f=8):=by
        have h8:=Pm.uh f k n HM.out hn26 hsk
        rw[Hid,Pm.gC f k HN.out (by rw[h8];decide) hlt,h8]
       clear hss hsk
       go_wp2
       go_ret
       exact ⟨fD H8.out.symm,hb⟩
     ·have HMK:Hid (m=k):=by rw[Hid];omega
      go_wp2
      exact ⟨⟨k+1,by omega,by go_num,by rw[Hid,Pm.dZ f k HN.out,Pm.wT f k n HM.out hn26 (by rw[←HMK.out];exact HS.out)]⟩,by simp[intOf];omega⟩
  ·have HK:Hid (k=26):=by rw[Hid];omega
   go_wp2
   go_ret
   exact ⟨fD (Pm.nK f k HN.out HK.out).symm,hb⟩
end
end Go.Proofs.Ytpdemelchhkfaaa
