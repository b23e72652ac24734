import Derived.Test.YtgacaecjinlhiaaGreatDoorJn32
namespace Go.Proofs.YtgacaecjinlhiaaGreatDoor
section
open Go.RowKit PK
structure Rd where
 p:Nat→Nat
 st:Nat→Bool
 op:Bool
 long:Nat
 first:Nat
 last:Nat
def cL (s:Rd) (i:Nat):Value :=
 if i<26 then .int .i64 (s.p i:Nat) else if i<52 then .bool (s.st (i-26)) else if i=52 then .bool s.op else if i=53 then .int .i64 (s.long:Nat) else if i=54 then .int .i64 (s.first:Nat) else .int .i64 (s.last:Nat)
def aU (s:Rd):Array Value:=tab 56 (cL s)
theorem pV (s:Rd) (i v:Nat) (hi:i<26):(aU s).setIfInBounds i (.int .i64 (v:Nat))=aU { s with p:=upd s.p i v }:=by
 unfold aU
 rw[dw]
 refine bT fun j _=>?_
 by_cases e:j=i
 ·subst e;simp[cL,hi]
 ·simp[upd,e,cL]
theorem sg (s:Rd) (i:Nat) (v:Bool) (hi:i<26):(aU s).setIfInBounds (26+i) (.bool v)=aU { s with st:=upd s.st i v }:=by
 unfold aU
 rw[dw]
 refine bT fun j _=>?_
 by_cases e:j=26+i
 ·subst e
  have h1:¬(26+i<26):=by omega
  have h2:26+i<52:=by omega
  simp[cL,h1,h2]
 ·by_cases h1:j<26
  ·simp[upd,e,cL,h1]
  ·have h3:¬(j-26=i):=by omega
   simp[upd,e,cL,h1,h3]
theorem sG (s:Rd) (v:Bool):(aU s).setIfInBounds 52 (.bool v)=aU { s with op:=v }:=by
 unfold aU
 rw[dw]
 refine bT fun j _=>?_
 by_cases e:j=52
 ·subst e;simp[cL]
 ·simp[upd,e,cL]
theorem jw (s:Rd) (v:Nat):(aU s).setIfInBounds 53 (.int .i64 (v:Nat))=aU { s with long:=v }:=by
 unfold aU
 rw[dw]
 refine bT fun j _=>?_
 by_cases e:j=53
 ·subst e;simp[cL]
 ·simp[upd,e,cL]
theorem tB (s:Rd) (v:Nat):(aU s).setIfInBounds 54 (.int .i64 (v:Nat))=aU { s with first:=v }:=by
 unfold aU
 rw[dw]
 refine bT fun j _=>?_
 by_cases e:j=54
 ·subst e;simp[cL]
 ·simp[upd,e,cL]
theorem nM (s:Rd) (v:Nat):(aU s).setIfInBounds 55 (.int .i64 (v:Nat))=aU { s with last:=v }:=by
 unfold aU
 rw[dw]
 refine bT fun j hj=>?_
 by_cases e:j=55
 ·subst e;simp[cL]
 ·by_cases h1:j=54
  ·subst h1;simp[upd,cL]
  ·by_cases h2:j=53
   ·subst h2;simp[upd,cL]
   ·by_cases h3:j=52
    ·subst h3;simp[upd,cL]
    ·have h4:j<52:=by omega
     by_cases h5:j<26 <;> simp[upd,e,cL,h4,h5]
theorem xA (s:Rd):(aU s).all (·.oneCell')=true:=by
 rw[Array.all_eq_true_iff_forall_mem]
 intro v hv
 simp[aU,tab] at hv
 obtain ⟨i,_,rfl⟩:=hv
 unfold cL
 repeat (first | rfl | split)
theorem eC {w:World} {b:Nat} {T:TypeId} {s:Rd} (h:af w b T (aU s)) :
  (∀i,i<26→w.cell? ⟨b,i,none⟩=some (.int .i64 (s.p i:Nat)))∧(∀i,i<26→w.cell? ⟨b,26+i,none⟩=some (.bool (s.st i)))∧w.cell? ⟨b,52,none⟩=some (.bool s.op) ∧
  w.cell? ⟨b,53,none⟩=some (.int .i64 (s.long:Nat))∧w.cell? ⟨b,54,none⟩=some (.int .i64 (s.first:Nat))∧w.cell? ⟨b,55,none⟩=some (.int .i64 (s.last:Nat))∧∀i,w.frozen? ⟨b,i,none⟩=false:=by
 refine ⟨fun i hi=>?_,fun i hi=>?_,?_,?_,?_,?_,h.frozen⟩
 ·have:=h.cell (aR (n:=56) (cL s) (i:=i) (by omega));simpa [cL,hi] using this
 ·have:=h.cell (aR (n:=56) (cL s) (i:=26+i) (by omega))
  have h1:¬(26+i<26):=by omega
  have h2:26+i<52:=by omega
  simpa [cL,h1,h2] using this
 ·exact h.cell (aR (n:=56) (cL s) (i:=52) (by omega))
 ·exact h.cell (aR (n:=56) (cL s) (i:=53) (by omega))
 ·exact h.cell (aR (n:=56) (cL s) (i:=54) (by omega))
 ·exact h.cell (aR (n:=56) (cL s) (i:=55) (by omega))
structure eW (b:Nat) (w w':World):Prop where
 os:w'.os=w.os
 tape:w'.tape=w.tape
 output:w'.output=w.output
 size:w'.heap.size=w.heap.size
 block:∀k,k≠b→w'.heap[k]? = w.heap[k]?
theorem eW.refl (b:Nat) (w:World):eW b w w:=⟨rfl,rfl,rfl,rfl,fun _ _=>rfl⟩
theorem eW.set {b:Nat} {a w:World} (h:eW b a w) (i:Nat) (v:Value):eW b a (w.setCell ⟨b,i,none⟩ v):=⟨h.os,h.tape,h.output,by simpa using h.size,fun k hk=>(heap_setCell_other w _ k v hk).trans (h.block k hk)⟩
theorem eW.drew {b:Nat} {a w:World} (h:eW b a w):eW b a w.drew:=⟨h.os,h.tape,h.output,h.size,h.block⟩
def Rd.letter (s:Rd) (i:Nat):Rd :=
 let f:=if s.long=0 then i else s.first
 let q:=if s.long=0 then s.p else upd s.p s.last i
 { s with st:=upd s.st i true,first:=f,p:=upd q i f,last:=i,long:=s.long+1 }
set_option maxHeartbeats 1000000 in
theorem qg (s:Rd) (b i:Nat) (hi:i<26) (hs:s.st i=true) (w:World) (h:af w b 210 (aU s)) :
  Calls Tryz.prog 167 #[.pointer (some ⟨b,0,none⟩),.int .i64 (i:Nat)] w fun e w'=>e=.returned (.int .i64 8)∧w=w':=by
 obtain ⟨_,h2,_,_,_,_,_⟩:=eC h
 have hc:=h2 i hi
 rw[hs] at hc
 clear h h2
 go_enter Tryz.func167,Tryz.ntmps167
 go_wp2
 go_ret
 exact ⟨rfl,rfl⟩
set_option maxHeartbeats 2000000 in
theorem nB (s:Rd) (b i:Nat) (hi:i<26) (hs:s.st i=false) (hl:s.long=0) (w:World) (h:af w b 210 (aU s)) :
  Calls Tryz.prog 167 #[.pointer (some ⟨b,0,none⟩),.int .i64 (i:Nat)] w fun e w'=>e=.returned (.int .i64 0)∧af w' b 210 (aU (s.letter i))∧eW b w w':=by
 have HR:Hid (af w b 210 (aU s)):=h
 obtain ⟨h1,h2,h3,h4,h5,h6,h7⟩:=eC h
 have hc1:=h1 i hi
 have hc2:=h2 i hi
 rw[hs] at hc2
 rw[hl] at h4
 clear h h1 h2
 have e1:¬(26+i=53):=by omega
 go_enter Tryz.func167,Tryz.ntmps167
 go_wp2
 obtain ⟨W,hW⟩:∃W,W=(w.setCell ⟨b,26+i,none⟩ (.bool true)).setCell ⟨b,54,none⟩ (.int .i64 (i:Nat)):=⟨_,rfl⟩
 rw[←hW]
 have HR1:Hid (af W b 210 (aU { s with st:=upd s.st i true,first:=i })):=by
  rw[Hid,hW,←tB { s with st:=upd s.st i true } i,←sg s i true hi]
  exact (HR.out.set _ _).set _ _
 have HO1:Hid (eW b w W):=by rw[Hid,hW];exact ((eW.refl b w).set _ _).set _ _
 clear hW h3 h4 h5 h6 h7 hc1 hc2
 obtain ⟨h1,h2,h3,h4,h5,h6,h7⟩:=eC HR1.out
 have hc1:=h1 i hi
 simp only at hc1 h4 h5 h6
 clear h1 h2
 rw[hl] at h4
 go_region
 go_wp2
 go_ret
 refine ⟨rfl,?_,(((HO1.out.set _ _).set _ _).set _ _).drew⟩
 have a1:=HR1.out.set i (.int .i64 (i:Nat))
 rw[pV _ i i hi] at a1
 have a2:=a1.set 55 (.int .i64 (i:Nat))
 rw[nM] at a2
 have a3:=a2.set 53 (.int .i64 ((1:Nat):Int))
 rw[jw] at a3
 have e2:s.letter i={ s with st:=upd s.st i true,first:=i,p:=upd s.p i i,last:=i,long:=1 }:=by simp[Rd.letter,hl]
 rw[e2]
 exact a3
set_option maxHeartbeats 2000000 in
theorem oF (s:Rd) (b i:Nat) (hi:i<26) (hs:s.st i=false) (hl:0<s.long) (hl2:s.long<9223372036854775807) (hla:s.last<26) (w:World) (h:af w b 210 (aU s)) :
  Calls Tryz.prog 167 #[.pointer (some ⟨b,0,none⟩),.int .i64 (i:Nat)] w fun e w'=>e=.returned (.int .i64 0)∧af w' b 210 (aU (s.letter i))∧eW b w w':=by
 have HR:Hid (af w b 210 (aU s)):=h
 obtain ⟨h1,h2,h3,h4,h5,h6,h7⟩:=eC h
 have hc1:=h1 i hi
 have hc2:=h2 i hi
 rw[hs] at hc2
 clear h h1 h2
 have hz:((s.long:Int)==0)=false:=by simp;omega
 go_enter Tryz.func167,Tryz.ntmps167
 go_wp2
 obtain ⟨W,hW⟩:∃W,W=w.setCell ⟨b,26+i,none⟩ (.bool true):=⟨_,rfl⟩
 rw[←hW]
 have HR1:Hid (af W b 210 (aU { s with st:=upd s.st i true })):=by
  rw[Hid,hW,←sg s i true hi]
  exact HR.out.set _ _
 have HO1:Hid (eW b w W):=by rw[Hid,hW];exact (eW.refl b w).set _ _
 clear hW h3 h4 h5 h6 h7 hc1 hc2
 obtain ⟨h1,h2,h3,h4,h5,h6,h7⟩:=eC HR1.out
 have hc1:=h1 i hi
 have hcl:=h1 s.last hla
 simp only at hc1 h4 h5 h6 hcl
 clear h1 h2
 go_region
 go_wp2
 obtain ⟨W2,hW2⟩:∃W2,W2=(W.setCell ⟨b,s.last,none⟩ (.int .i64 (i:Nat))).drew:=⟨_,rfl⟩
 rw[←hW2]
 have HR2:Hid (af W2 b 210 (aU { s with st:=upd s.st i true,p:=upd s.p s.last i })):=by
  rw[Hid,hW2]
  have:=HR1.out.set s.last (.int .i64 (i:Nat))
  rw[pV _ s.last i hla] at this
  exact this.drew
 have HO2:Hid (eW b w W2):=by rw[Hid,hW2];exact (HO1.out.set _ _).drew
 clear hW2 h3 h4 h5 h6 h7 hc1 hcl
 obtain ⟨h1,h2,h3,h4,h5,h6,h7⟩:=eC HR2.out
 have hc1:=h1 i hi
 simp only at hc1 h4 h5 h6
 clear h1 h2
 go_region
 go_wp2
 go_ret
 refine ⟨rfl,?_,(((HO2.out.set _ _).set _ _).set _ _).drew⟩
 have a1:=HR2.out.set i (.int .i64 (s.first:Nat))
 rw[pV _ i s.first hi] at a1
 have a2:=a1.set 55 (.int .i64 (i:Nat))
 rw[nM] at a2
 have a3:=a2.set 53 (.int .i64 ((s.long+1:Nat):Int))
 rw[jw] at a3
 have e2:s.letter i={ s with st:=upd s.st i true,p:=upd (upd s.p s.last i) i s.first,last:=i,long:=s.long+1 }:=by
  have:¬(s.long=0):=by omega
  simp[Rd.letter,this]
 rw[e2]
 exact a3
def Rd.BH (s:Rd) (i:Nat):Int:=if s.st i=true then 8 else 0
def Rd.n6 (s:Rd) (i:Nat):Rd:=if s.st i=true then s else s.letter i
theorem qC (s:Rd) (b i:Nat) (hi:i<26) (hl2:s.long<9223372036854775807) (hla:s.long=0∨s.last<26) (w:World) (h:af w b 210 (aU s)) :
  Calls Tryz.prog 167 #[.pointer (some ⟨b,0,none⟩),.int .i64 (i:Nat)] w fun e w'=>e=.returned (.int .i64 (s.BH i))∧af w' b 210 (aU (s.n6 i))∧eW b w w':=by
 by_cases hs:s.st i=true
 ·rw[Rd.BH,Rd.n6,if_pos hs,if_pos hs]
  refine (qg s b i hi hs w h).mono ?_
  rintro e w' ⟨rfl,rfl⟩
  exact ⟨rfl,h,eW.refl _ _⟩
 ·rw[Rd.BH,Rd.n6,if_neg hs,if_neg hs]
  have hs':s.st i=false:=by simpa using hs
  by_cases hl:s.long=0
  ·exact nB s b i hi hs' hl w h
  ·exact oF s b i hi hs' (by omega) hl2 (by omega) w h
def Rd.err (s:Rd) (c:Nat):Int :=
 if s.op=false∧c=40 then 0 else if s.op=true∧0<s.long∧c=41 then 0 else if s.op=true∧65≤c∧c≤90 then s.BH (c-65) else 2
def Rd.next (s:Rd) (c:Nat):Rd :=
 if s.op=false∧c=40 then { s with op:=true,long:=0 } else if s.op=true∧0<s.long∧c=41 then { s with op:=false } else if s.op=true∧65≤c∧c≤90 then s.n6 (c-65) else s
set_option maxHeartbeats 2000000 in
theorem Ca (s:Rd) (b c:Nat) (hc:c<256) (hl2:s.long<9223372036854775807) (hla:s.long=0∨s.last<26) (w:World) (h:af w b 210 (aU s)) :
  Calls Tryz.prog 150 #[.pointer (some ⟨b,0,none⟩),.int .u8 (c:Nat)] w fun e w'=>e=.returned (.int .i64 (s.err c))∧af w' b 210 (aU (s.next c))∧eW b w w':=by
 have HR:Hid (af w b 210 (aU s)):=h
 obtain ⟨h1,h2,h3,h4,h5,h6,h7⟩:=eC h
 clear h h1 h2 h5 h6
 have HL:=fun (hi:c-65<26)=>qC s b (c-65) hi hl2 hla w HR.out
 cases ho:s.op
 ·rw[ho] at h3
  have HO:Hid (s.op=false):=ho
  clear ho HL
  by_cases e40:c=40
  ·have E:Hid (s.err c=0):=by simp[Hid,Rd.err,HO.out,e40]
   have N:Hid (s.next c={ s with op:=true,long:=0 }):=by simp[Hid,Rd.next,HO.out,e40]
   have t40:(((c:Nat):Int)==40)=true:=by simp;omega
   clear e40
   go_enter Tryz.func150,Tryz.ntmps150
   go_wp2
   go_ret
   refine ⟨dx E.out.symm,?_,((eW.refl b w).set _ _).set _ _⟩
   rw[N.out]
   have a1:=HR.out.set 52 (.bool true)
   rw[sG] at a1
   have a2:=a1.set 53 (.int .i64 ((0:Nat):Int))
   rw[jw] at a2
   exact a2
  ·have E:Hid (s.err c=2):=by simp[Hid,Rd.err,HO.out,e40]
   have N:Hid (s.next c=s):=by simp[Hid,Rd.next,HO.out,e40]
   have t40:(((c:Nat):Int)==40)=false:=by simp;omega
   clear e40
   go_enter Tryz.func150,Tryz.ntmps150
   go_wp2
   go_ret
   exact ⟨dx E.out.symm,by rw[N.out];exact HR.out,eW.refl _ _⟩
 ·rw[ho] at h3
  have HO:Hid (s.op=true):=ho
  clear ho
  by_cases e41:0<s.long∧c=41
  ·have E:Hid (s.err c=0):=by simp[Hid,Rd.err,HO.out,e41.1,e41.2]
   have N:Hid (s.next c={ s with op:=false }):=by simp[Hid,Rd.next,HO.out,e41.1,e41.2]
   have t41:(((c:Nat):Int)==41)=true:=by simp;omega
   have l0:0<s.long:=e41.1
   clear e41 HL
   go_enter Tryz.func150,Tryz.ntmps150
   go_wp2
   go_ret
   refine ⟨dx E.out.symm,?_,(eW.refl b w).set _ _⟩
   rw[N.out]
   have a1:=HR.out.set 52 (.bool false)
   rw[sG] at a1
   exact a1
  ·by_cases el:65≤c∧c≤90
   ·have E:Hid (s.err c=s.BH (c-65)):=by simp[Hid,Rd.err,HO.out,el.1,el.2];omega
    have N:Hid (s.next c=s.n6 (c-65)):=by
     simp only[Hid,Rd.next,HO.out]
     rw[if_neg (by simp),if_neg (by omega),if_pos ⟨trivial,el⟩]
    have HL':Hid (Calls Tryz.prog 167 #[.pointer (some ⟨b,0,none⟩),.int .i64 ((c-65:Nat):Int)] w fun e w'=>e=.returned (.int .i64 (s.BH (c-65)))∧af w' b 210 (aU (s.n6 (c-65)))∧eW b w w'):=HL (by omega)
    have t41:(((c:Nat):Int)==41)=false:=by simp;omega
    have c1:(65:Int)≤(c:Nat):=by omega
    have c2:((c:Nat):Int)≤90:=by omega
    have HE:Hid (((c-65:Nat):Int)=(c:Int)-65):=by rw[Hid];omega
    clear HL e41 el
    go_enter Tryz.func150,Tryz.ntmps150
    by_cases l0:0<s.long
    all_goals
     go_wp2_with fail
     rw[←HE.out]
     refine HL'.out.mono ?_
     rintro e w1 ⟨rfl,a,o⟩
     go_wp2
     go_ret
     exact ⟨dx E.out.symm,by rw[N.out];exact a,o⟩
   ·have E:Hid (s.err c=2):=by
     simp only[Hid,Rd.err,HO.out]
     rw[if_neg (by simp),if_neg (by omega),if_neg (by simp only[true_and];exact el)]
    have N:Hid (s.next c=s):=by
     simp only[Hid,Rd.next,HO.out]
     rw[if_neg (by simp),if_neg (by omega),if_neg (by simp only[true_and];exact el)]
    clear HL
    have e41':¬0<s.long∨(((c:Nat):Int)==41)=false:=by
     by_cases l0:0<s.long
     ·right;simp;omega
     ·exact .inl l0
    have el':¬((65:Int)≤(c:Nat))∨(((65:Int)≤(c:Nat))∧¬(((c:Nat):Int)≤90)):=by omega
    clear e41 el
    go_enter Tryz.func150,Tryz.ntmps150
    by_cases l0:0<s.long
    ·have t41:(((c:Nat):Int)==41)=false:=e41'.resolve_left (fun h=>h l0)
     clear e41'
     rcases el' with c1 | ⟨c1,c2⟩
     all_goals
      go_wp2
      go_ret
      exact ⟨dx E.out.symm,by rw[N.out];exact HR.out,eW.refl _ _⟩
    ·clear e41'
     rcases el' with c1 | ⟨c1,c2⟩
     all_goals
      go_wp2
      go_ret
      exact ⟨dx E.out.symm,by rw[N.out];exact HR.out,eW.refl _ _⟩
end
section
open Go.RowKit PK
def rd0:Rd:=⟨fun i=>i,fun _=>false,false,0,0,0⟩
def rdN (t:List UInt8):Nat→Rd
 | 0=>rd0
 | k+1=>(rdN t k).next (t.getD k 0).toNat
def ec (t:List UInt8):Nat→Option (Int × Nat)
 | 0=>none
 | k+1=>match ec t k with
  | some x=>some x
  | none=>if (rdN t k).err (t.getD k 0).toNat≠0 then some ((rdN t k).err (t.getD k 0).toNat,k) else none
def aW (t:List UInt8):(Nat→Int) × Int × Nat :=
 match ec t t.length with
 | some x=>(fun _=>0,x.1,x.2)
 | none=>if (rdN t t.length).op=true then (fun _=>0,2,t.length) else (Pm.up (rdN t t.length).p,0,0)
theorem xb (t : List UInt8) (k n : Nat) (x : Int × Nat) (h : ec t k = some x) (hn : k ≤ n) : ec t n = some x := by
  induction n with
  | zero => have : k = 0 := by omega
            subst this; exact h
  | succ n ih =>
    by_cases e : k = n + 1
    · rw [← e]; exact h
    · have := ih (by omega)
      show (match ec t n with | some x => some x | none => _) = _
      rw [this]
theorem xk (t:List UInt8) (k:Nat) (h:ec t k=none) (hz:(rdN t k).err (t.getD k 0).toNat=0):ec t (k+1)=none:=by
 show (match ec t k with | some x=>some x | none=>if (rdN t k).err (t.getD k 0).toNat≠0 then some ((rdN t k).err (t.getD k 0).toNat,k) else none)=none
 rw[h]
 exact if_neg (fun hn=>hn hz)
theorem xF (t:List UInt8) (k:Nat) (h:ec t k=none) (hz:(rdN t k).err (t.getD k 0).toNat≠0) (hk:k<t.length):ec t t.length=some ((rdN t k).err (t.getD k 0).toNat,k):=by
 refine xb t (k+1) t.length _ ?_ (by omega)
 show (match ec t k with | some x=>some x | none=>if (rdN t k).err (t.getD k 0).toNat≠0 then some ((rdN t k).err (t.getD k 0).toNat,k) else none)=_
 rw[h]
 exact if_pos hz
theorem wG (t:List UInt8):∀k,(rdN t k).long≤k∧((rdN t k).long=0∨(rdN t k).last<26)
 | 0=>⟨Nat.le_refl _,.inl rfl⟩
 | k+1=>by
  have ih:=wG t k
  show ((rdN t k).next (t.getD k 0).toNat).long≤k+1∧_
  show _∧(((rdN t k).next (t.getD k 0).toNat).long=0∨((rdN t k).next (t.getD k 0).toNat).last<26)
  generalize rdN t k=s at *
  generalize (t.getD k 0).toNat=c
  unfold Rd.next
  split
  ·exact ⟨by simp,.inl rfl⟩
  ·split
   ·exact ⟨by simpa using (by omega:s.long≤k+1),by simpa using ih.2⟩
   ·split
    ·rename_i h1 h2 h3
     unfold Rd.n6
     split
     ·exact ⟨by omega,ih.2⟩
     ·exact ⟨by simp[Rd.letter];omega,.inr (by simp[Rd.letter];omega)⟩
    ·exact ⟨by omega,ih.2⟩
theorem EA (place:Nat→Option (Nat × Nat)) (c:Array Value) (k off n:Nat) (v:Value) (hp:place k=some (off,n)) (hv:v.cells.size=n) (hc:off+n≤c.size) :
  Instr.fill place c [(k,v)]=some (v.cells.zipIdx.foldl (fun cs x=>cs.setIfInBounds (off+x.2) x.1) c):=by
 rw[Instr.fill,hp]
 simp only
 rw[if_neg (by rw[hv];simp;omega)]
 rfl
theorem sU (parts:List (Nat × Value)):Tryz.prog.built 210 parts=Instr.fill (fun i=>(#[(0,26),(26,26),(52,1),(53,1),(54,1),(55,1)]:Array (Nat × Nat))[i]?) (aU ⟨fun _=>0,fun _=>false,false,0,0,0⟩) parts:=by kernel_rfl
theorem qz (f:Nat→Nat):Tryz.prog.built 210 [(0,.agg (ints 26 (Pm.up f)))]=some (aU ⟨f,fun _=>false,false,0,0,0⟩):=by
 rw[sU,EA _ _ 0 0 26 (.agg (ints 26 (Pm.up f))) rfl (ag 26 _) (by rw[aU,bG];decide)]
 refine congrArg some ?_
 have h0:(Value.agg (ints 26 (Pm.up f))).cells=ints 26 (Pm.up f):=rfl
 rw[h0,←Array.foldl_toList,Array.toList_zipIdx]
 have h1:=gQ 56 0 (ints 26 (Pm.up f)).toList 0 (cL ⟨fun _=>0,fun _=>false,false,0,0,0⟩)
 refine Eq.trans h1 ?_
 refine bT fun i hi=>?_
 rw[oq]
 by_cases e:i<26
 ·rw[if_pos (by simp;omega)]
  simp[e,cL,Pm.up]
 ·rw[if_neg (by simp;omega)]
  simp[e,cL]
theorem vG:(Tryz.prog.info? 210).map (·.size)=some 56:=by kernel_rfl
theorem eI:(Tryz.prog.info? 37).map (·.size)=some 2:=by kernel_rfl
theorem oD {P:Program} {ops:Array Oper} {rest:List Oper} {op:Oper} {a:Act} {w:World} {Q:Exit→Act→World→Prop} (hgd:op.guard=none) (t:TypeId) (k:Nat) (x:Operand) (ho:op.op=.build t #[(k,x)])
  (v:Value) (hx:a.eval x=v) (cells:Array Value) (hb:P.built t [(k,v)]=some cells) (h:wpList P ops Q rest (a.put op.dst (.agg cells)) w):wpList P ops Q (op :: rest) a w :=
 wpList_plain hgd fun _ hK=>by
  unfold Oper.wp execOp
  have hm:(#[(k,x)]:Array (Nat × Operand)).map (fun (i,x)=>(i,a.eval x))=#[(k,v)]:=by simp[hx]
  simp only[ho,Sem.run_bind,hm,run_build w t #[(k,v)] cells hb,Result.andThen_ok]
  exact hK _ _ h
theorem eV {P:Program} {fn:Func} {p q:Tmp} {ty ty2:TypeId} (h:fn.results=#[.cell p ty,.cell q ty2]) (tmps:Array Value) (w:World) (g g2:Nat) (t t2:TypeId) (cs cs2:Array Value) (fr fr2:Nat × Nat) (d d2:TypeDesc)
  (hp:tmps.getD p undef=.pointer (some ⟨g,0,none⟩)) (hq:tmps.getD q undef=.pointer (some ⟨g2,0,none⟩)) (hg:w.heap[g]? = some (.cells cs t fr)) (hg2:w.heap[g2]? = some (.cells cs2 t2 fr2))
  (hu:P.underlying ty=some d) (hd:(match d with | .struct _ | .array _ _=>true | _=>false)=true) (hi:(P.info? ty).map (·.size)=some cs.size)
  (hu2:P.underlying ty2=some d2) (hd2:(match d2 with | .struct _ | .array _ _=>true | _=>false)=true) (hi2:(P.info? ty2).map (·.size)=some cs2.size) :
  (results fn tmps).run P w=.ok (.tuple #[.agg cs,.agg cs2]) w:=by
 have hp':tmps[p]?.getD undef=.pointer (some ⟨g,0,none⟩):=by simpa using hp
 have hq':tmps[q]?.getD undef=.pointer (some ⟨g2,0,none⟩):=by simpa using hq
 simp[results,h,hp',hq',asAddr,run_loadVar_row w g t ty cs fr d hg hu hd hi,run_loadVar_row w g2 t2 ty2 cs2 fr2 d2 hg2 hu2 hd2 hi2]
theorem o5 (a b:Int):(#[.int .i64 a,.int .i64 b]:Array Value).all (·.oneCell')=true:=by
 rw[Array.all_eq_true_iff_forall_mem]
 intro v hv
 simp at hv
 rcases hv with rfl | rfl <;> rfl
theorem Jq (t:ByteArray) (k:Nat) (hk:k<t.size):t.data.toList.getD k 0=t[k]:=by
 have hk':k<t.data.toList.length:=hk
 simp only[List.getD,List.getElem?_eq_getElem hk']
 rfl
theorem DU {w:World} {b:Nat} {T:TypeId} {s:Rd} (h:af w b T (aU s)):w.rangeAt b 0 (ints 26 (Pm.up s.p)).toList:=fun j v hv=>by
 have hj:j<26:=by
  have:=(List.getElem?_eq_some_iff.1 hv).1
  simpa [ag] using this
 have hv':(ints 26 (Pm.up s.p))[j]? = some v:=by simpa using hv
 rw[aB _ hj] at hv'
 have:=(eC h).1 j hj
 have e:(⟨b,0+j,none⟩:Addr)=⟨b,j,none⟩:=by simp
 rw[e,this]
 exact hv'
theorem Bg {w W1:World} {T U:TypeId} {z:Nat→Int} {c:Array Value} (hb:Below ((w.alloc (.cells (ints 26 z) T)).alloc (.cells c U)).heap.size ((w.alloc (.cells (ints 26 z) T)).alloc (.cells c U)) W1) :
  af W1 w.heap.size T (ints 26 z)∧af W1 (w.heap.size+1) U c∧Below w.heap.size w W1∧w.heap.size+2≤W1.heap.size:=by
 have hs:=hb.size
 simp at hs
 refine ⟨af.below ((af.new w _ _).alloc _) hb (by simp <;> omega),af.below (af.newAt (by simp)) hb (by simp <;> omega),?_,hs⟩
 exact (((Below.refl _ _).alloc (Nat.le_refl _) _).alloc (by simp) _).trans (hb.mono (by simp <;> omega))
set_option maxHeartbeats 4000000 in
theorem Fh (t:ByteArray) (hs:t.size≤maxLen) (w:World) :
  Calls Tryz.prog 123 #[.string t] w fun e w'=>e=.returned (.tuple #[.agg (ints 26 (aW t.data.toList).1),.agg #[.int .i64 (aW t.data.toList).2.1,.int .i64 ((aW t.data.toList).2.2:Nat)]])∧Below w.heap.size w w':=by
 unfold maxLen at hs
 have HLN:Hid (t.data.toList.length=t.size):=rfl
 go_enter Tryz.func123,Tryz.ntmps123
 go_wp2_with fail
 rw[kP]
 refine (AS _).mono ?_
 rintro e W1 ⟨rfl,hb0⟩
 obtain ⟨r1,r2,hb1,hs1⟩:=Bg hb0
 clear hb0
 go_wp2_with (first
  | refine oD rfl 210 0 _ rfl (.agg (ints 26 (Pm.up fun i=>i))) rfl _ (qz fun i=>i) ?_
  | (refine wpList_store_row rfl 210 _ _ rfl W1.heap.size (aU rd0) rfl rfl 210 _ (af.new W1 _ _) (by rw[aU,bG];exact vG) (by rw[aU,bG];rfl) (xA _) ?_;rw[World.setRow_alloc_new]))
 go_loopw [11] (fun i W=>∃k:Nat,k≤t.size∧i=.int .i64 k∧Hid (ec t.data.toList k=none)∧af W W1.heap.size 210 (aU (rdN t.data.toList k))∧af W w.heap.size 25 (ints 26 fun _=>0)∧af W (w.heap.size+1) 37 #[.int .i64 0,.int .i64 0]∧Below w.heap.size w W) (fun i _=>(t.size-intOf i).toNat)
 case atStart =>
  exact ⟨0,Nat.zero_le _,rfl,rfl,af.new _ _ _,r1.alloc _,r2.alloc _,hb1.alloc (by omega) _⟩
 case round =>
  obtain ⟨k,hk,rfl,HN,hrd,hz,hfl,hb⟩:=hrel
  clear r1 r2 hb1
  have hd1:W1.heap.size≠w.heap.size:=by omega
  have hd2:W1.heap.size≠w.heap.size+1:=by omega
  by_cases hlt:k<t.size
  ·have HB:Hid ((t.data.toList.getD k 0).toNat=t[k].toNat):=by rw[Hid,Jq t k hlt]
   have hl:=wG t.data.toList k
   have hcb:t[k].toNat<256:=UInt8.toNat_lt t[k]
   have HT:Hid (Calls Tryz.prog 150 #[.pointer (some ⟨W1.heap.size,0,none⟩),.int .u8 (t[k].toNat:Nat)] wr fun e w'=>e=.returned (.int .i64 ((rdN t.data.toList k).err t[k].toNat))∧af w' W1.heap.size 210 (aU ((rdN t.data.toList k).next t[k].toNat))∧eW W1.heap.size wr w') :=
    Ca (rdN t.data.toList k) W1.heap.size t[k].toNat hcb (by omega) hl.2 wr hrd
   obtain ⟨E,hE⟩:∃E,E=(rdN t.data.toList k).err t[k].toNat:=⟨_,rfl⟩
   rw[←hE] at HT
   have HE:Hid (E=(rdN t.data.toList k).err t[k].toNat):=hE
   clear hE hl
   by_cases e0:E=0
   ·rw[e0] at HT
    have HZ:Hid (E=0):=e0
    clear e0
    go_wp2_with fail
    refine HT.out.mono ?_
    rintro e w2 ⟨rfl,hrd2,o2⟩
    go_wp2
    go_roundw
    case rel =>
     refine ⟨k+1,by omega,by go_num,?_,?_,(o2.block _ (Ne.symm hd1)).trans hz,(o2.block _ (Ne.symm hd2)).trans hfl,⟨o2.os.trans hb.os,o2.tape.trans hb.tape,o2.output.trans hb.output,by rw[o2.size];exact hb.size,fun j hj=>(o2.block j (by omega)).trans (hb.block j hj)⟩⟩
     ·exact xk _ k HN.out (by rw[HB.out,←HE.out];exact HZ.out)
     ·show af _ _ _ (aU ((rdN t.data.toList k).next (t.data.toList.getD k 0).toNat))
      rw[HB.out]
      exact hrd2
    case measure=>simp[intOf];omega
   ·have hne:(E != 0)=true:=by simpa using e0
    have HO:Hid (aW t.data.toList=(fun _=>0,E,k)):=by
     have:=xF t.data.toList k HN.out (by rw[HB.out,←HE.out];exact e0) (by rw[HLN.out];exact hlt)
     rw[HB.out,←HE.out] at this
     rw[Hid,aW,this]
    clear e0
    go_wp2_with fail
    refine HT.out.mono ?_
    rintro e w2 ⟨rfl,hrd2,o2⟩
    have hz2:af w2 w.heap.size 25 (ints 26 fun _=>0):=(o2.block _ (Ne.symm hd1)).trans hz
    have hfl2:af w2 (w.heap.size+1) 37 #[.int .i64 0,.int .i64 0]:=(o2.block _ (Ne.symm hd2)).trans hfl
    have hb2:Below w.heap.size w w2:=⟨o2.os.trans hb.os,o2.tape.trans hb.tape,o2.output.trans hb.output,by rw[o2.size];exact hb.size,fun j hj=>(o2.block j (by omega)).trans (hb.block j hj)⟩
    go_wp2_with (first
     | refine cP rfl 25 rfl _ og ?_
     | refine wpList_store_row rfl 25 _ _ rfl w.heap.size (ints 26 fun _=>0) rfl rfl 25 _ hz2 (by rw[ag];exact aj) (by simp only[ag]) (aI _ _) ?_
     | refine wpList_store_row rfl 37 _ _ rfl (w.heap.size+1) #[.int .i64 E,.int .i64 (k:Int)] rfl rfl 37 _ (hfl2.aX _ _ (by omega)) eI rfl (o5 _ _) ?_)
    rw[HO.out]
    exact bodyPost_ret (v:=.tuple #[.agg (ints 26 fun _=>0),.agg #[.int .i64 E,.int .i64 (k:Int)]]) (eV rfl _ _ w.heap.size (w.heap.size+1) 25 37 _ _ (0,0) (0,0) _ _ rfl rfl ((hz2.row _).aX _ _ (by omega)) ((hfl2.aX _ _ (by omega)).row _) Tryz.underlying25 rfl (by rw[ag];exact aj) Tryz.underlying37 rfl eI) rfl ⟨rfl,Below.setRow (Below.setRow hb2 _ (Nat.le_refl _) _) _ (by omega) _⟩
  ·have HK:Hid (k=t.size):=by rw[Hid];omega
   obtain ⟨_,_,hop,_⟩:=eC hrd
   cases ho:(rdN t.data.toList k).op
   ·rw[ho] at hop
    have HO:Hid (aW t.data.toList=(Pm.up (rdN t.data.toList k).p,0,0)):=by
     have e1:t.data.toList.length=k:=HLN.out.trans HK.out.symm
     rw[Hid,aW,e1,HN.out]
     simp[ho]
    clear ho
    have hrange:wr.rangeAt W1.heap.size 0 (ints 26 (Pm.up (rdN t.data.toList k).p)).toList:=DU hrd
    have HRG:Hid (wr.rangeAt W1.heap.size 0 (ints 26 (Pm.up (rdN t.data.toList k).p)).toList):=hrange
    clear hrange
    go_wp2_with (first
     | refine wpList_load_mid rfl 25 _ rfl W1.heap.size 0 rfl (ints 26 (Pm.up (rdN t.data.toList k).p)).toList _ HRG.out Tryz.underlying25 rfl (by rw[Array.length_toList,ag];exact aj) ?_
     | refine wpList_store_row rfl 25 _ _ rfl w.heap.size (ints 26 (Pm.up (rdN t.data.toList k).p)) rfl rfl 25 _ hz (by rw[ag];exact aj) (by simp only[ag]) (aI _ _) ?_
     | refine wpList_store_row rfl 37 _ _ rfl (w.heap.size+1) #[.int .i64 0,.int .i64 0] rfl rfl 37 _ (hfl.aX _ _ (by omega)) eI rfl (o5 _ _) ?_)
    rw[HO.out]
    exact bodyPost_ret (v:=.tuple #[.agg (ints 26 (Pm.up (rdN t.data.toList k).p)),.agg #[.int .i64 0,.int .i64 0]]) (eV rfl _ _ w.heap.size (w.heap.size+1) 25 37 _ _ (0,0) (0,0) _ _ rfl rfl ((hz.row _).aX _ _ (by omega)) ((hfl.aX _ _ (by omega)).row _) Tryz.underlying25 rfl (by rw[ag];exact aj) Tryz.underlying37 rfl eI) rfl ⟨rfl,Below.setRow (Below.setRow hb _ (Nat.le_refl _) _) _ (by omega) _⟩
   ·rw[ho] at hop
    have HO:Hid (aW t.data.toList=(fun _=>0,2,t.size)):=by
     have e1:t.data.toList.length=k:=HLN.out.trans HK.out.symm
     rw[Hid,aW,e1,HN.out]
     simp[ho]
     exact HK.out
    clear ho
    go_wp2_with (first
     | refine cP rfl 25 rfl _ og ?_
     | refine wpList_store_row rfl 25 _ _ rfl w.heap.size (ints 26 fun _=>0) rfl rfl 25 _ hz (by rw[ag];exact aj) (by simp only[ag]) (aI _ _) ?_
     | refine wpList_store_row rfl 37 _ _ rfl (w.heap.size+1) #[.int .i64 2,.int .i64 (t.size:Int)] rfl rfl 37 _ (hfl.aX _ _ (by omega)) eI rfl (o5 _ _) ?_)
    rw[HO.out]
    exact bodyPost_ret (v:=.tuple #[.agg (ints 26 fun _=>0),.agg #[.int .i64 2,.int .i64 (t.size:Int)]]) (eV rfl _ _ w.heap.size (w.heap.size+1) 25 37 _ _ (0,0) (0,0) _ _ rfl rfl ((hz.row _).aX _ _ (by omega)) ((hfl.aX _ _ (by omega)).row _) Tryz.underlying25 rfl (by rw[ag];exact aj) Tryz.underlying37 rfl eI) rfl ⟨rfl,Below.setRow (Below.setRow hb _ (Nat.le_refl _) _) _ (by omega) _⟩
end
end Go.Proofs.YtgacaecjinlhiaaGreatDoor
