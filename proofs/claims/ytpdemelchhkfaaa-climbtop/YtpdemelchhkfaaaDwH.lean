import Derived.Test.YtpdemelchhkfaaaDwG
namespace Go.Proofs.Ytpdemelchhkfaaa
namespace Cs
open Go.Conc
open Go.ConcN (sumTo sumTo_congr)
open Go.ConcR (KK WgAt wgBlock stA smA rd wr mk)
section
variable {P:Program} {c:Cst} {tW:TypeId} {J:Nat} {z0 z0':Y0} {zs:Nat→YW P} {z':YW P} {n i m m':Nat} {W W':Wd} {w w':World}
theorem Bu (hi:i<n) (hb:bef z'≤bef (zs i)):lft c z0 (aJ zs i z') n≤lft c z0 zs n:=by
 have:=fo (cG c) zs z' hi
 have e:cG c i z'≤cG c i (zs i):=by unfold cG;split <;> omega
 unfold lft
 omega
theorem pq (hi:i<n) (hb:bef z'=bef (zs i)):lft c z0 (aJ zs i z') n=lft c z0 zs n:=by
 have:=fo (cG c) zs z' hi
 have e:cG c i z'=cG c i (zs i):=by unfold cG;rw[hb]
 unfold lft
 omega
theorem lT:(fun j=>aV (aJ zs i z' j))=aJ (fun j=>aV (zs j)) i (aV z'):=funext fun j=>by
 by_cases e:j=i
 ·subst e;rw[an,an]
 ·rw[aF _ _ e,aF _ _ e]
theorem rI (hi:i<n) (hb:bef z'≤bef (zs i)) (h:wD c*qW J z'+m3 (wB c) (aJ (fun j=>aV (zs j)) i (aV z')) n W' m'<wD c*qW J (zs i)+m3 (wB c) (fun j=>aV (zs j)) n W m):tot c J z0 (aJ zs i z') n W' m'<tot c J z0 zs n W m:=by
 have h1:=fo (fun _ z=>qW J z) zs z' hi
 have h2:=zo (c:=c) (z0:=z0) (Bu (c:=c) (z0:=z0) hi hb)
 unfold tot
 rw[lT]
 have h3:wD c*(sumTo n (fun i_1=>qW J (aJ zs i z' i_1))+(10*J+12)*(c.n-bg c z0))+wD c*qW J (zs i)=wD c*(sumTo n (fun i=>qW J (zs i))+(10*J+12)*(c.n-bg c z0))+wD c*qW J z':=by
  rw[←Nat.mul_add,←Nat.mul_add]
  congr 1
  omega
 omega
theorem mN (hi:i<n) (hb:bef z'=bef (zs i)) (hq:qW J z'=qW J (zs i)) (hm:aV z'=aV (zs i)):tot c J z0 (aJ zs i z') n W m=tot c J z0 zs n W m:=by
 have h1:=fo (fun _ z=>qW J z) zs z' hi
 have e:(fun j=>aV (aJ zs i z' j))=fun j=>aV (zs j):=funext fun j=>by
  by_cases e:j=i
  ·subst e;rw[an,hm]
  ·rw[aF _ _ e]
 have h2:sumTo n (fun i_1=>qW J (aJ zs i z' i_1))=sumTo n (fun i=>qW J (zs i)):=by
  have h1':sumTo n (fun i_1=>qW J (aJ zs i z' i_1))+qW J (zs i)=sumTo n (fun i=>qW J (zs i))+qW J z':=h1
  omega
 unfold tot
 rw[e,pq hi hb,h2]
theorem ic (hi:i<n) (hb:bef z'≤bef (zs i)) (hq:qW J z'<qW J (zs i)) (hm:aV z'=aV (zs i)):tot c J z0 (aJ zs i z') n W m<tot c J z0 zs n W m:=by
 refine rI hi hb ?_
 have e:aJ (fun j=>aV (zs j)) i (aV z')=fun j=>aV (zs j):=funext fun j=>by
  by_cases e:j=i
  ·subst e;rw[an,hm]
  ·rw[aF _ _ e]
 rw[e]
 have h1:=Nat.mul_le_mul_left (wD c) (show qW J z'+1≤qW J (zs i) by omega)
 rw[Nat.mul_add] at h1
 have:14≤wD c:=by unfold wD;omega
 omega
theorem qn (hi:i<n) (hb:bef z'≤bef (zs i)) (hq:qW J z'≤qW J (zs i)) (hn:n≤c.S0+c.n) (hv:Mv (aV (zs i)) W m (aV z') W' m') (hl:lcM (aV (zs i))) (hx:aV (zs i)≠.no):tot c J z0 (aJ zs i z') n W' m'<tot c J z0 zs n W m:=by
 refine rI hi hb ?_
 have h1:=Nat.mul_le_mul_left (wD c) hq
 have h2:=xE (xs:=fun j=>aV (zs j)) hv hi rfl hl hx (B:=wB c) (by unfold wB;omega)
 omega
theorem Ds (hi:i<n) (hb:bef z'≤bef (zs i)) (hq:qW J z'<qW J (zs i)) (hx:aV (zs i)=.no) (hx':aV z'=.ld):tot c J z0 (aJ zs i z') n W m<tot c J z0 zs n W m:=by
 refine rI hi hb ?_
 have h1:=Nat.mul_le_mul_left (wD c) (show qW J z'+1≤qW J (zs i) by omega)
 rw[Nat.mul_add] at h1
 have e1:=dM (xs:=fun j=>aV (zs j)) (x':=.ld) p1M hi
 have e2:=dM (xs:=fun j=>aV (zs j)) (x':=.ld) (p2M W) hi
 have e1':sm n p1M (aJ (fun j=>aV (zs j)) i .ld)+p1M (aV (zs i))=sm n p1M (fun j=>aV (zs j))+6:=e1
 have e2':sm n (p2M W) (aJ (fun j=>aV (zs j)) i .ld)+p2M W (aV (zs i))=sm n (p2M W) (fun j=>aV (zs j))+13:=e2
 rw[hx] at e1' e2'
 have e3:sm n p1M (aJ (fun j=>aV (zs j)) i .ld)=sm n p1M (fun j=>aV (zs j))+6:=e1'
 have e4:sm n (p2M W) (aJ (fun j=>aV (zs j)) i .ld)=sm n (p2M W) (fun j=>aV (zs j))+13:=e2'
 rw[hx']
 unfold m3
 rw[e3,e4]
 have h5:wB c*(sm n p1M (fun j=>aV (zs j))+6+m)=wB c*(sm n p1M (fun j=>aV (zs j))+m)+6*wB c:=by
  rw[show sm n p1M (fun j=>aV (zs j))+6+m=(sm n p1M (fun j=>aV (zs j))+m)+6 by omega,Nat.mul_add]
  omega
 unfold wD at *
 omega
theorem iJ (h:k9 c zs n) (hc:closing z'→closing (zs i)):k9 c (aJ zs i z') n:=fun j h1 h2=>by
 by_cases e:j=i
 ·subst e;rw[an];exact fun e=>h j h1 h2 (hc e)
 ·rw[aF _ _ e];exact h j h1 h2
theorem WgS.ee (h:WgS c tW z0 zs n w) (hz:z0'=z0∨(z0=.w3b∧z0'=.w3 0)) (hi:i<n) (hb:bef z'=bef (zs i)) (hc:closing z'↔closing (zs i)) (hs:gG z'↔gG (zs i)) (hw:w'.heap[c.C2]? = w.heap[c.C2]?):WgS c tW z0' (aJ zs i z') n w':=by
 obtain ⟨e1,e2,_,e4,_,_⟩:=dP (P:=P) (c:=c) hz
 have hl:lft c z0' (aJ zs i z') n=lft c z0 zs n:=by
  rw[←pq (c:=c) (z0:=z0) hi hb]
  unfold lft
  rw[e1]
 refine WgS.keep (w:=w) ?_ hw
 cases h with
 | run hn hp hr hw=>exact .run (iJ hn hc.1) (fun e=>hp (e4.1 e)) (by
   rw[hl,e2]
   refine ⟨hr.1,fun u m e=>?_⟩
   rcases hz with e' | ⟨_,e'⟩
   ·exact hr.2 u m (e' ▸ e)
   ·rw[e'] at e;cases e) (by rw[hl,e2];exact hw)
 | cls j hj hs' hcj hu hr hlf hw =>
  have hup:∀Q:YW P→Prop,(Q z'↔Q (zs i))→(Q (aJ zs i z' j)↔Q (zs j)):=fun Q hQ=>by
   by_cases e:j=i
   ·subst e;rw[an];exact hQ
   ·rw[aF _ _ e]
  refine .cls j hj hs' ((hup closing hc).2 hcj) (fun k k1 k2 k3=>?_) (by rw[e2];exact hr) (by rw[hl];exact hlf) ⟨fun e=>hw.1 ((hup gG hs).1 e),fun e=>hw.2 fun e'=>e ((hup gG hs).2 e')⟩
  by_cases e:k=i
  ·subst e;rw[an];exact fun e=>hu k k1 k2 k3 (hc.1 e)
  ·rw[aF _ _ e];exact hu k k1 k2 k3
 | rls hn hlf hr hb' hw =>
  have e:z0'=z0:=by
   rcases hz with e | ⟨e,_⟩
   ·exact e
   ·exact absurd e hb'
  exact .rls (iJ hn hc.1) (by rw[hl];exact hlf) (by rw[e2];exact hr) (by rw[e];exact hb') hw
 | pst hn hlf hp hw=>exact .pst (iJ hn hc.1) (by rw[hl];exact hlf) (e4.2 hp) hw
theorem bX (h:told z'→told (zs i)):∀j,told (aJ zs i z' j)→told (zs j):=fun j hj=>by
 by_cases e:j=i
 ·subst e;rw[an] at hj;exact h hj
 ·rw[aF _ _ e] at hj;exact hj
end
structure dg (c:Cst) (Sn:Nat→Prop):Prop where
 lt:∀b,Sn b→b<c.N1∧b≠c.Fd
 fix:∀b,Sn b→¬c.Fix b
 c2:Sn c.C2
theorem pF (g:Nat) (fn:FuncId) (pos:String) (a b:Array Event):MemOp.ofEvents g fn pos (a++b)=MemOp.ofEvents g fn pos a++MemOp.ofEvents g fn pos b:=by
 have h:∀es:Array Event,MemOp.ofEvents g fn pos es=es.map fun e=>{ g,fn,pos,act:=.ofEvent e }:=fun es=>by
  unfold MemOp.ofEvents
  split
  ·rename_i h
   rw[Array.isEmpty_iff.1 h]
   simp
  ·rfl
 rw[h,h,h,Array.map_append]
theorem m7 (g:Nat) (fn:FuncId) (pos:String) (es:Array Event):(MemOp.ofEvents g fn pos es).size=es.size:=by
 unfold MemOp.ofEvents
 split
 ·rename_i h
  rw[Array.isEmpty_iff.1 h]
  rfl
 ·simp
theorem mH {es:Array Event} (h:∀e ∈ es,∃a wr,e=(⟨.cell a,wr,true⟩:Event)) (k:Nat):0<deafBehind 1 (es.extract 0 k):=by
 rw[deafBehind_still (fun e he=>?_)]
 ·decide
 ·obtain ⟨j,hj⟩:=Array.mem_iff_getElem?.1 he
  rw[Array.getElem?_extract] at hj
  split at hj
  rotate_left
  ·cases hj
  obtain ⟨a,wr,rfl⟩:=h e (Array.mem_of_getElem? hj)
  exact ⟨(fun e=>by cases e),fun e=>by cases e⟩
theorem pR (t : Trace) (g : Nat) (fn : FuncId) (pos : String) (es : Array Event) {k : Nat} (hk : k ≤ es.size) : (t ++ MemOp.ofEvents g fn pos es).deaf g (t.size + k) = deafBehind (Deaf t g) (es.extract 0 k) := by
  have e : es = es.extract 0 k ++ es.extract k es.size := by simp [hk]
  have hs : (es.extract 0 k).size = k := by simp; omega
  have hsz : (t ++ MemOp.ofEvents g fn pos (es.extract 0 k)).size = t.size + k := by rw [Array.size_append, m7, hs]
  calc (t ++ MemOp.ofEvents g fn pos es).deaf g (t.size + k) = ((t ++ MemOp.ofEvents g fn pos (es.extract 0 k)) ++ MemOp.ofEvents g fn pos (es.extract k es.size)).deaf g (t.size + k) := by
        rw [Array.append_assoc, ← pF, ← e]
    _ = (t ++ MemOp.ofEvents g fn pos (es.extract 0 k)).deaf g (t.size + k) := deaf_old (by rw [hsz]; exact Nat.le_refl _)
    _ = Deaf (t ++ MemOp.ofEvents g fn pos (es.extract 0 k)) g := by rw [Deaf, hsz]
    _ = _ := Deaf_own t g fn pos _
variable [Fns]
section
variable {P:Program} {c:Cst} {tW tX:TypeId} {J:Nat} {F:Nat→Value} {R:Nat→Array Value} {β:Type} {eB:β→Nat→Value} {up:β→Nat→β} {b0:β} {Sn:Nat→Prop} {S:ff P c tW tX J F R β eB up}
variable {gs gs':Array Goroutine} {w w':World} {t t':Trace} {z0 z0':Y0} {zs:Nat→YW P} {L L':List Nat} {ow ow':Option Nat} {blk blk':Nat→Option Nat} {W W':Wd} {mm mm' i:Nat} {g g':Goroutine} {z':YW P} {es:Array Event}
omit [Fns] in
theorem Tr3.reads {zs':Nat→YW P} {top size size':Nat} {fn:FuncId} {pos:String} (h:Tr3 c Sn zs top ow blk size t) (hn:dg c Sn) (hi:i=0∨(c.S0≤i∧i<top)) (hes:∀e ∈ es,∃a:Addr,e=⟨.cell a,false,false⟩∧c.Fix a.block) (hN:c.N1≤size') (hs:size≤size') (hz:∀j,told (zs' j)→told (zs j)) (hzi:es=#[]∨i=0∨¬told (zs' i)):Tr3 c Sn zs' top ow blk size' (t++MemOp.ofEvents i fn pos es):=by
 have key:∀op ∈ MemOp.ofEvents i fn pos es,op.g=i∧∃a:Addr,op.act=.access ⟨.cell a,false,false⟩∧c.Fix a.block:=fun op hop=>by
  obtain ⟨e,he,rfl⟩:=Conc.mem_ofEvents hop
  obtain ⟨a,rfl,ha⟩:=hes e he
  exact ⟨rfl,a,rfl,ha⟩
 refine h.own hn.lt hi (fun op hop=>?_) hs (fun op hop b hb=>?_) (fun op hop=>?_) hz ?_
 ·obtain ⟨h1,a,h2,h3⟩:=key op hop
  refine ⟨h1,fun b hb=>.inr ?_⟩
  rw[h2] at hb
  cases hb
  refine ⟨fun e=>?_,.inr ⟨by simp only[bV,if_neg h3.2.1,if_pos h3.1],fun e=>h3.2.1 e.1,rfl⟩⟩
  rcases e with e | e
  ·exact hn.fix _ e h3
  ·exact h3.2.1 e.1
 ·obtain ⟨h1,a,h2,h3⟩:=key op hop
  rw[h2] at hb
  cases hb
  exact Nat.lt_of_lt_of_le h3.1 hN
 ·obtain ⟨_,a,h2,_⟩:=key op hop
  rw[h2]
  exact fun e=>by cases e
 ·rcases hzi with rfl | h1 | h1
  ·exact .inl fun j x b hj hx=>by
    have e:MemOp.ofEvents i fn pos #[]=#[]:=rfl
    rw[e,Array.append_empty,Array.getElem?_eq_none hj] at hx
    cases hx
  ·exact .inr (.inl h1)
  ·exact .inr (.inr h1)
omit [Fns] in
theorem Tr3.atom {zs':Nat→YW P} {top size:Nat} {fn:FuncId} {pos:String} (h:Tr3 c Sn zs top ow blk size t) (hn:dg c Sn) (hi:i=0∨(c.S0≤i∧i<top)) (hes:∀e ∈ es,(∃a wr,e=⟨.cell a,wr,true⟩∧Sn a.block)∨e=Go.ConcR.mk .disable∨e=Go.ConcR.mk .enable) (hs:c.N1≤size) (hz:∀j,told (zs' j)→told (zs j)) (hzd:i=0∨¬told (zs' i)∨∀(k:Nat) (e:Event),es[k]? = some e→(∃a wr,e=⟨.cell a,wr,true⟩)→0<deafBehind (Deaf t i) (es.extract 0 k)):Tr3 c Sn zs' top ow blk size (t++MemOp.ofEvents i fn pos es):=by
 have key:∀op ∈ MemOp.ofEvents i fn pos es,op.g=i∧((∃a wr,op.act=.access ⟨.cell a,wr,true⟩∧Sn a.block)∨op.act=.mark .disable∨op.act=.mark .enable):=fun op hop=>by
  obtain ⟨e,he,rfl⟩:=Conc.mem_ofEvents hop
  refine ⟨rfl,?_⟩
  rcases hes e he with ⟨a,wr,rfl,h2⟩ | rfl | rfl
  ·exact .inl ⟨a,wr,rfl,h2⟩
  ·exact .inr (.inl rfl)
  ·exact .inr (.inr rfl)
 have hb:∀op ∈ MemOp.ofEvents i fn pos es,∀b,op.act.touch? = some b→∃a wr,b=⟨.cell a,wr,.atomic⟩∧Sn a.block:=fun op hop b hb=>by
  rcases (key op hop).2 with ⟨a,wr,h1,h2⟩ | h1 | h1
  ·rw[h1] at hb;cases hb;exact ⟨a,wr,rfl,h2⟩
  ·rw[h1] at hb;cases hb
  ·rw[h1] at hb;cases hb
 refine h.own hn.lt hi (fun op hop=>⟨(key op hop).1,fun b hb'=>?_⟩) (Nat.le_refl _) (fun op hop b hb'=>?_) (fun op hop=>?_) hz ?_
 ·obtain ⟨a,wr,rfl,h2⟩:=hb op hop b hb'
  exact .inl ⟨.inl h2,(fun e=>by cases e),(fun e=>by cases e)⟩
 ·obtain ⟨a,wr,rfl,h2⟩:=hb op hop b hb'
  exact Nat.lt_of_lt_of_le (hn.lt _ h2).1 hs
 ·rcases (key op hop).2 with ⟨a,wr,h1,_⟩ | h1 | h1
  ·rw[h1];exact fun e=>by cases e
  ·rw[h1];exact fun e=>by cases e
  ·rw[h1];exact fun e=>by cases e
 ·rcases hzd with h1 | h1 | h1
  ·exact .inr (.inl h1)
  ·exact .inr (.inr h1)
  ·refine .inl fun j x b hj hx hxb hc=>?_
   obtain ⟨k,rfl⟩:∃k,j=t.size+k:=⟨j-t.size,by omega⟩
   have hxu:(MemOp.ofEvents i fn pos es)[k]? = some x:=by
    rw[Array.getElem?_append_right (Nat.le_add_right _ _),Nat.add_sub_cancel_left] at hx
    exact hx
   obtain ⟨a,wr,rfl,h2⟩:=hb x (Array.mem_of_getElem? hxu) b hxb
   rcases hc with hc | ⟨g',hg1,hg2⟩
   ·exact hc h2
   ·have hke:∃e,es[k]? = some e∧x={ g:=i,fn:=fn,pos:=pos,act:=.ofEvent e }:=by
     unfold MemOp.ofEvents at hxu
     split at hxu
     ·simp at hxu
     ·rw[Array.getElem?_map,Option.map_eq_some_iff] at hxu
      obtain ⟨e,h3,h4⟩:=hxu
      exact ⟨e,h3,h4.symm⟩
    obtain ⟨e,he,rfl⟩:=hke
    have hgi:g'=i:=by
     rw[Trace.g?,hx] at hg1
     exact (Option.some.inj hg1).symm
    subst hgi
    rw[pR t g' fn pos es (Nat.le_of_lt (Array.getElem?_eq_some_iff.1 he).1)] at hg2
    have:=h1 k e he (by
     rcases hes e (Array.mem_of_getElem? he) with ⟨a',wr',h5,_⟩ | h5 | h5
     ·exact ⟨a',wr',h5⟩
     ·rw[h5] at hxb;cases hxb
     ·rw[h5] at hxb;cases hxb)
    omega
omit [Fns] in
theorem Tr3.CL {zs':Nat→YW P} {top size:Nat} {fn:FuncId} {pos:String} (h:Tr3 c Sn zs top ow blk size t) (hn:dg c Sn) (hi:c.S0≤i∧i<top) (hes:∀e ∈ es,(∃o wr,o<2∧e=⟨.cell ⟨c.Fd,o,none⟩,wr,true⟩)∨e=Go.ConcR.mk .disable∨e=Go.ConcR.mk .enable) (hF:c.Fd<c.N1) (hs:c.N1≤size) (hz:∀j,told (zs' j)→told (zs j)) (hzd:¬told (zs' i)):Tr3 c Sn zs' top ow blk size (t++MemOp.ofEvents i fn pos es):=by
 have key:∀op ∈ MemOp.ofEvents i fn pos es,op.g=i∧((∃o wr,o<2∧op.act=.access ⟨.cell ⟨c.Fd,o,none⟩,wr,true⟩)∨op.act=.mark .disable∨op.act=.mark .enable):=fun op hop=>by
  obtain ⟨e,he,rfl⟩:=Conc.mem_ofEvents hop
  refine ⟨rfl,?_⟩
  rcases hes e he with ⟨o,wr,h2,rfl⟩ | rfl | rfl
  ·exact .inl ⟨o,wr,h2,rfl⟩
  ·exact .inr (.inl rfl)
  ·exact .inr (.inr rfl)
 have hb:∀op ∈ MemOp.ofEvents i fn pos es,∀b,op.act.touch? = some b→∃o wr,o<2∧b=⟨.cell ⟨c.Fd,o,none⟩,wr,.atomic⟩:=fun op hop b hb=>by
  rcases (key op hop).2 with ⟨o,wr,h2,h1⟩ | h1 | h1
  ·rw[h1] at hb;cases hb;exact ⟨o,wr,h2,rfl⟩
  ·rw[h1] at hb;cases hb
  ·rw[h1] at hb;cases hb
 refine h.own hn.lt (.inr hi) (fun op hop=>⟨(key op hop).1,fun b hb'=>?_⟩) (Nat.le_refl _) (fun op hop b hb'=>?_) (fun op hop=>?_) hz (.inr (.inr hzd))
 ·obtain ⟨o,wr,h2,rfl⟩:=hb op hop b hb'
  exact .inl ⟨.inr ⟨rfl,h2⟩,(fun e=>by cases e),(fun e=>by cases e)⟩
 ·obtain ⟨o,wr,h2,rfl⟩:=hb op hop b hb'
  exact Nat.lt_of_lt_of_le hF hs
 ·rcases (key op hop).2 with ⟨a,wr,_,h1⟩ | h1 | h1
  ·rw[h1];exact fun e=>by cases e
  ·rw[h1];exact fun e=>by cases e
  ·rw[h1];exact fun e=>by cases e
omit [Fns] in
theorem mF {c:Cst} (h:DQ c w w' es) (d:Nat):deafBehind d es=d:=deafBehind_still (fun e he=>by
 obtain ⟨a,rfl,_⟩:=h.evs e he
 exact ⟨(fun e=>by cases e),(fun e=>by cases e)⟩) d
omit [Fns] in
theorem AG {c:Cst} (h:DQ c w w' es):Still c w w':=⟨fun q _ _=>by rw[h.heap],fun cs e=>⟨cs,by rw[h.heap];exact e,rfl,fun _ _=>rfl⟩,by rw[h.heap],by rw[h.os];exact .refl _,h.output⟩
omit [Fns] in
theorem AK {c:Cst} (h:DQ c w w' es) (ok:Ok3 c tW w):Ok3 c tW w' :=
 ⟨(AG h).okT ok.ok,by obtain ⟨a,b,hk⟩:=ok.wg;exact ⟨a,b,by unfold WgAt at hk ⊢;rw[h.heap];exact hk⟩,by obtain ⟨a,b,hk⟩:=ok.mu;exact ⟨a,b,b9 hk (by rw[h.heap])⟩⟩
theorem ff.cf (S:ff P c tW tX J F R β eB up):c.C2<c.N1∧c.Fd<c.N1:=⟨S.d1.1,S.d1.2.1⟩
theorem aD.cK (h:aD S b0 Sn gs w t z0 zs L ow blk W mm) (hm:aV z'=aV (zs i)):MInv (fun j=>aV (aJ zs i z' j)) gs.size W mm:=by
 have e:(fun j=>aV (aJ zs i z' j))=fun j=>aV (zs j):=funext fun j=>by
  by_cases e:j=i
  ·subst e;rw[an,hm]
  ·rw[aF _ _ e]
 rw[e]
 exact h.mi
theorem aD.iT (h:aD S b0 Sn gs w t z0 zs L ow blk W mm) (hn:dg c Sn) (hi:c.S0≤i) (hg:gs[i]? = some g) (hst:stepG P false g w=.go g' w' es) (hq:DQ c w w' es) (st:TW S (L.foldl up b0) (Deaf t i) z' g' w') (hb:bef z'=bef (zs i)) (hc:closing z'↔closing (zs i)) (hs:gG z'↔gG (zs i)) (hqw:qW J z'=qW J (zs i)) (hmx:aV z'=aV (zs i))
  (ht:told z'→told (zs i)) (hze:es=#[]∨¬told z') (hdw:deafW z' (Deaf t i)) (hto:cW J z'=cW J (zs i)) (hcr:gv z'↔gv (zs i)) (hnm:gE z'=gE (zs i)) (hbx:en z'=en (zs i)) (hu:bI z'=bI (zs i)) (hnc:∀k E s,z'≠.ca k E s) (hmb:∀k q s,z'≠.mb k q s) (hm:kV P [ay P] (yiW z') (yiW (zs i))):bp S b0 Sn gs w t z0 zs W mm i:=by
 have hs1:=S.s1
 have his:=bf hg
 have hok:=AK hq h.ok3
 have hsz:w'.heap.size=w.heap.size:=by rw[hq.heap]
 refine h.dw (L':=L) (ow':=ow) (blk':=blk) (W':=W) (mm':=mm) (by omega) hg hst hok (by rw[mF hq];exact st) (fun e=>by omega) (fun _=>by rw[mF hq];exact hdw) (fun _ _ _ _ _ _=>by rw[hq.heap]) (fun _ _ _ _ _=>⟨rfl,fun _ _=>by unfold World.cell?;rw[hq.heap]⟩) (fun z0' k1 _=>h.wg.ee k1 his hb hc hs (by rw[hq.heap])) (fun k E s e=>absurd e (hnc k E s)) ?_ ?_ (h.cK hmx) (b9 h.mu (by rw[hq.heap])) (fun k q s e=>absurd e (hmb k q s)) (fun _ e=>e) (.inr ⟨mN his hb hqw hmx,.inl hm⟩)
 ·exact h.mem.one S.cf (AG hq) hi (fun k _ _=>by rw[hto]) hcr (fun k e=>h.mem.nm i k hi his (by rw[←hnm];exact e)) (fun k q e=>by rw[←hbx];exact e) (fun q e=>by rw[←hu];exact e)
 ·exact h.tr.reads hn (.inr ⟨hi,his⟩) hq.evs (by rw[hsz];exact h.mem.ok.big) (by rw[hsz];exact Nat.le_refl _) (bX ht) (hze.elim .inl fun e=>.inr (.inr (by rw[an];exact e)))
theorem aD.leaves (h:aD S b0 Sn gs w t z0 zs L ow blk W mm) (hi:1≤i) (hg:gs[i]? = some g) (hr:g.status=.running) {q:Nat} (hz:zs i=.lv q):bp S b0 Sn gs w t z0 zs W mm i:=by
 have his:=bf hg
 have hw:=h.wk i g hi hg
 rw[hz] at hw
 have hq:QuitsD P q (Deaf t i) g:=hw
 cases q with
 | zero=>rw[hq.1] at hr;cases hr
 | succ n =>
  rcases hq with ⟨hf,_⟩ | ⟨_,g',es,hm,hst,hq'⟩
  ·rw[hr] at hf;cases hf
  have hn:∀op ∈ MemOp.ofEvents i g.frame.fn g.frame.place es,op.act.touch? = none∧eL op.act≠true:=fun op hop=>by
   obtain ⟨e,he,rfl⟩:=Conc.mem_ofEvents hop
   refine ⟨touch_mute (hm e he),fun e2=>?_⟩
   have:=hm e he
   obtain ⟨loc,a,b⟩:=e
   cases loc with
   | mark m=>cases m <;> simp_all [Event.mute,MemAct.ofEvent,eL]
   | _=>simp_all [Event.mute,MemAct.ofEvent]
  have hmem:cU P c tX J R eB up b0 (aJ zs i (.lv n)) gs.size L ow blk w:=by
   rcases Nat.lt_or_ge i c.S0 with h4 | h4
   ·have hne:∀j,c.S0≤j→aJ zs i (.lv n) j=zs j:=fun j hj=>aF _ _ (by omega)
    refine ⟨h.mem.ok,h.mem.nd,fun k=>by rw[hne _ (by omega)];exact h.mem.li k,h.mem.bd,fun j a b=>by rw[hne _ a];exact h.mem.ow1 j a b,h.mem.ow2,fun j k a b=>by rw[hne _ a];exact h.mem.nm j k a b,fun j k q a b=>by rw[hne _ a];exact h.mem.bx j k q a b,fun j q a b=>by rw[hne _ a];exact h.mem.us1 j q a b,h.mem.us4⟩
   ·exact h.mem.one S.cf (.refl _ _) h4 (fun k _ _=>by rw[hz];exact Iff.rfl) (by rw[hz];exact Iff.rfl) (fun k e=>by cases e) (fun k q e=>e.elim) (fun q e=>e.elim)
  refine h.dw (z':=.lv n) (L':=L) (ow':=ow) (blk':=blk) (W':=W) (mm':=mm) hi hg (hst w) h.ok3 hq' (fun _=>⟨n,rfl⟩) (fun _=>trivial) (fun _ _ _ _ _ _=>rfl) (fun _ _ _ _ _=>⟨rfl,fun _ _=>rfl⟩) (fun z0' k1 _=>h.wg.ee k1 his (by rw[hz];rfl) (by rw[hz];exact Iff.rfl) (by rw[hz];exact Iff.rfl) rfl) (fun k E s e=>by cases e) hmem ?_ (h.cK (by rw[hz];rfl)) h.mu (fun k q s e=>by cases e) (fun _ e=>e) (.inr ⟨mN his (by rw[hz];rfl) (by rw[hz];rfl) (by rw[hz];rfl),.inl (by rw[hz];exact .walk (Nat.lt_succ_self _))⟩)
  exact h.tr.mute (fun op hop=>(hn op hop).1) (fun op hop=>(hn op hop).2) (Nat.le_refl _) (bX (fun _=>by rw[hz];trivial))
omit [Fns] in
theorem OnA.go {main:Bool} {Stp:Goroutine→Prop} (h:OnA P c tW main Stp g) (ok:Ok3 c tW w):∃m,WalkA P c tW main Stp m g w:=h.2 w ok
omit [Fns] in
theorem OnL.go {Stp:Goroutine→Prop} (h:OnL P c tW Stp g) (ok:Ok3 c tW w):∃m,cu P c tW Stp m g w:=h.2 w ok
end
end Cs
end Go.Proofs.Ytpdemelchhkfaaa
