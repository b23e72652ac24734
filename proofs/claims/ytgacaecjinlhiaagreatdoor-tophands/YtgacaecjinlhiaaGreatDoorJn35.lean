import Derived.Test.YtgacaecjinlhiaaGreatDoorJn34
namespace Go.Proofs.YtgacaecjinlhiaaGreatDoor
section
open Go.RowKit PK Vg
def qM (l:List UInt8) (m:Nat):Int:=if ckE l≠0 then ckE l else if l.length≠m then 8 else 0
def xm (l:List UInt8):Nat→Int:=fun i=>(Vg.num (l.getD i 0):Nat)
def wz (l:List UInt8) (m:Nat):Nat→Int:=fun i=>if i<m then (Vg.num (l.getD i 0):Nat) else 0
theorem Bs (l:List UInt8) (m:Nat):upd (wz l m) m ((Vg.num (l.getD m 0):Nat):Int)=wz l (m+1):=by
 funext i
 unfold upd wz
 by_cases h:i=m
 ·rw[if_pos h,if_pos (by omega),h]
 ·rw[if_neg h]
  by_cases h2:i<m
  ·rw[if_pos h2,if_pos (by omega)]
  ·rw[if_neg h2,if_neg (by omega)]
set_option maxRecDepth 100000 in
set_option maxHeartbeats 2000000 in
theorem lC (l:List UInt8) (p m:Nat) (hs:l.length≤65536) (hm:m≤65536) (w:World) :
  Calls Tryz.prog 100 #[wdV l p,.int .i64 (m:Nat)] w fun e w'=>(qM l m=0→∃v,e=.returned v∧aq w' v m (xm l)∧Fr0 w.heap.size v)∧(qM l m≠0→e=.panicked [flt (qM l m) p])∧Below w.heap.size w w':=by
 obtain ⟨s,hsd⟩:∃s:ByteArray,s=⟨l.toArray⟩:=⟨_,rfl⟩
 have hsl:s.data.toList=l:=by rw[hsd]
 have hz:=Pl.aK s
 rw[hsl] at hz
 unfold wdV
 rw[←hsd]
 have hb1:Below w.heap.size w (w.alloc (.cells #[.string s,.int .i64 (p:Int)] 91)):=(Below.refl _ w).alloc (Nat.le_refl _) _
 have hq1:=af.new w 91 #[.string s,.int .i64 (p:Int)]
 have c0:=af.cell hq1 (i:=0) rfl
 have c1:=af.cell hq1 (i:=1) rfl
 have HB:Hid _:=hb1
 have HQ:Hid (af (w.alloc (.cells #[.string s,.int .i64 (p:Int)] 91)) w.heap.size 91 #[.string s,.int .i64 (p:Int)]):=hq1
 have HK:Hid (∀X,Calls Tryz.prog 25 #[.string s] X fun e w'=>e=.returned (.agg #[.int .i64 (ckE l),.int .i64 (oG l)])∧Below X.heap.size X w'):=fun X=>by rw[←hsl];exact eK s X
 have HSE:Hid (qM l m=if ckE l≠0 then ckE l else if l.length≠m then 8 else 0):=rfl
 have HLS:Hid (ckE l=0→Pl.Lets s.data.toList):=fun h=>by rw[hsl];exact (zi h).2.2
 have HSL:Hid (s.data.toList=l):=hsl
 have HSZ:Hid (s.size=l.length):=hz
 have hfd:=zG
 generalize qM l m=SE at *
 generalize hce:ckE l=CE at *
 generalize oG l=CA at *
 clear hz hsl hsd hb1 hq1 c0 c1 hce
 go_enter Tryz.func100,Tryz.ntmps100
 go_wp2_with fail
 by_cases hE:CE=0
 ·have HP:Hid (∀X,Calls Tryz.prog 24 #[.int .i64 CE,.int .i64 (p:Int)] X fun e w'=>e=.returned (.tuple #[])∧w'=X):=fun X=>by rw[hE];exact fX _ X
  have HL:Hid (Pl.Lets s.data.toList):=HLS.out hE
  have HSE2:Hid (SE=if l.length≠m then 8 else 0):=by rw[Hid,HSE.out,if_neg (fun h=>h hE)]
  clear hE HSE HLS
  refine wp_region_noPanic ?_
  refine wp_region_held_drew (S:=fun W=>af W w.heap.size 91 #[.string s,.int .i64 (p:Int)]∧Below w.heap.size w W) (by kernel_rfl) ⟨HQ.out,HB.out.drew⟩ (fun hS=>?_)
  refine vtk 0 7 (.pointer (some ⟨w.heap.size,0,none⟩)) rfl (fun W hW=>by clear hS hW;go_simp) hS ?_
  simp only[zsA,zsB,zsC]
  refine vtk 1 8 (.string s) rfl (fun W hW=>by have u:=af.cell hW.1 (i:=0) rfl;clear hS hW;go_simp) hS ?_
  simp only[zsA,zsB,zsC]
  refine vtk 4 11 (.pointer (some ⟨w.heap.size,1,none⟩)) rfl (fun W hW=>by clear hS hW;go_simp) hS ?_
  simp only[zsA,zsB,zsC]
  refine vtk 5 12 (.int .i64 (p:Int)) rfl (fun W hW=>by have u:=af.cell hW.1 (i:=1) rfl;clear hS hW;go_simp) hS ?_
  simp only[zsA,zsB,zsC]
  refine rd1 2 rfl (fun K hK=>?_)
  go_simp
  refine Calls.mono (HK.out _) ?_
  rintro e Y ⟨rfl,hbx⟩
  refine hK.out _ _ (⟨af.below hS.1 hbx (af.lt hS.1),hS.2.trans (hbx.mono hS.2.size)⟩) (fun hS1=>?_)
  clear hK hS K
  have hS:=hS1
  clear hS1
  refine vtk 3 10 (.int .i64 CE) rfl (fun W hW=>by have u:=hfd;clear hS hW;go_simp) hS ?_
  simp only[zsA,zsB,zsC]
  refine rd1 6 rfl (fun K hK=>?_)
  go_simp
  refine Calls.mono (HP.out _) ?_
  rintro e Y ⟨rfl,rfl⟩
  refine hK.out _ _ (hS) (fun hS1=>?_)
  clear hK hS K
  have hS:=hS1
  clear hS1
  refine wpAnyH_done (by kernel_rfl) ?_ _
  refine NoPanic.normal ?_
  have HBY:Hid (Below w.heap.size w Y):=hS.2
  have HQY:Hid (af Y w.heap.size 91 #[.string s,.int .i64 (p:Int)]):=hS.1
  have u0:=af.cell hS.1 (i:=0) rfl
  have u1:=af.cell hS.1 (i:=1) rfl
  clear hS
  by_cases hlm:l.length=m
  ·have hsm:s.size=m:=by rw[HSZ.out];exact hlm
   have HS0:Hid (SE=0):=by rw[Hid,HSE2.out,if_neg (fun h=>h hlm)]
   have hne:((s.size:Int) != (m:Int))=false:=by rw[hsm];simp
   have hmk:=run_make_row' (P:=Tryz.prog) 23 3 (.int .i64 0) 8 Tryz.underlying23 xj rfl .i64 .i64 m (by omega) (by omega)
   rw[qi,qF] at hmk
   clear hlm HSE2
   go_wp2_with fail
   go_loopw [26] (fun i W=>∃k:Nat,k≤m∧i=.int .i64 (k:Nat)∧af W Y.heap.size 3 (ints m (wz l k))∧Below Y.heap.size Y W) (fun i _=>((m:Int)-intOf i).toNat)
   case atStart=>exact ⟨0,by omega,rfl,af.new Y _ _,(Below.refl _ _).alloc (Nat.le_refl _) _⟩
   case round =>
    obtain ⟨k,hk,rfl,ro,hb⟩:=hrel
    by_cases hlt:k<m
    ·have hks:k<s.size:=by omega
     have hlm:=Eu s HL.out k hks
     have HLT:Hid (k<m):=hlt
     have hcx:=af.cell ro (aB (wz l k) hlt)
     have hfx:=af.frozen ro k
     have hqk:=af.below HQY.out hb (af.lt HQY.out)
     have v0:=af.cell hqk (i:=0) rfl
     have hnum:Vg.num s[k]=Vg.num (l.getD k 0):=by rw[←HSL.out,ei s k hks]
     have ro2:af (wr.setCell ⟨Y.heap.size,k,none⟩ (.int .i64 (Vg.num s[k]:Nat))) Y.heap.size 3 (ints m (wz l (k+1))):=by
      have:=af.set ro k (.int .i64 (Vg.num s[k]:Nat))
      rw[ints_set,hnum,Bs] at this
      rw[hnum]
      exact this
     have hbb:=hb.setCell (p:=⟨Y.heap.size,k,none⟩) (Nat.le_refl _) (.int .i64 (Vg.num s[k]:Nat))
     have HN:Hid _:=sB s[k] hlm wr
     clear hqk ro hb hnum hlm
     generalize Vg.num s[k]=x at *
     go_wp2_with fail
     refine Calls.mono HN.out ?_
     rintro e V ⟨rfl,rfl⟩
     go_wp2_with fail
     exact ⟨⟨k+1,by omega,by go_num,ro2,hbb⟩,by simp[intOf];omega⟩
    ·obtain rfl:k=m:=by omega
     have HNA:Hid (aq wr (.slice (some ⟨Y.heap.size,0,none⟩) k k) k (xm l)):=by
      refine ⟨_,_,rfl,by unfold maxLen;omega,fun c hc=>⟨Y.heap.size,0,rfl,?_⟩⟩
      rw[Nat.zero_add,af.cell ro (aB (wz l k) hc)]
      unfold wz xm
      rw[if_pos hc]
     have HBZ:Hid (Below w.heap.size w wr):=HBY.out.trans (hb.mono HBY.out.size)
     have HFR:Hid (Fr0 w.heap.size (.slice (some ⟨Y.heap.size,0,none⟩) k k)):=fun a n c e=>by cases e;exact HBY.out.size
     clear ro hb
     go_wp2
     go_ret
     exact ⟨fun _=>⟨_,rfl,HNA.out,HFR.out⟩,fun h=>absurd HS0.out h,HBZ.out⟩
  ·have HS8:Hid (SE=8):=by rw[Hid,HSE2.out,if_pos hlm]
   have hne:((s.size:Int) != (m:Int))=true:=by rw[HSZ.out];simp;omega
   have HT:Hid _:=cG 8 p Y
   clear hlm HSE2
   go_wp2_with fail
   refine Calls.mono HT.out ?_
   rintro e V2 ⟨rfl,rfl⟩
   exact ⟨rfl,fun h=>absurd (HS8.out.symm.trans h) (by decide),fun _=>by rw[HS8.out],HBY.out⟩
 ·have HNE2:Hid (CE≠0):=hE
  have HS2:Hid (SE=CE):=by rw[Hid,HSE.out,if_pos hE]
  have HP:Hid (∀X,Calls Tryz.prog 24 #[.int .i64 CE,.int .i64 (p:Int)] X fun e w'=>e=.panicked [flt CE (p:Int)]∧w'=X):=fun X=>gJ CE _ (by simpa using hE) X
  clear hE HSE HLS
  refine wp_region_held_drew (S:=fun W=>af W w.heap.size 91 #[.string s,.int .i64 (p:Int)]∧Below w.heap.size w W) (by kernel_rfl) ⟨HQ.out,HB.out.drew⟩ (fun hS=>?_)
  refine aY 0 7 (.pointer (some ⟨w.heap.size,0,none⟩)) rfl rfl (by kernel_rfl) (by kernel_rfl) (by kernel_rfl) (fun _ _ _ h=>h) (by rfl) (fun W hW=>by clear hS hW;go_simp) hS ?_
  simp only[zsA,zsB,zsC]
  refine aY 1 8 (.string s) rfl rfl (by kernel_rfl) (by kernel_rfl) (by kernel_rfl) (fun _ _ _ h=>h) (by rfl) (fun W hW=>by have u:=af.cell hW.1 (i:=0) rfl;clear hS hW;go_simp) hS ?_
  simp only[zsA,zsB,zsC]
  refine aY 4 11 (.pointer (some ⟨w.heap.size,1,none⟩)) rfl rfl (by kernel_rfl) (by kernel_rfl) (by kernel_rfl) (fun _ _ _ h=>h) (by rfl) (fun W hW=>by clear hS hW;go_simp) hS ?_
  simp only[zsA,zsB,zsC]
  refine aY 5 12 (.int .i64 (p:Int)) rfl rfl (by kernel_rfl) (by kernel_rfl) (by kernel_rfl) (fun _ _ _ h=>h) (by rfl) (fun W hW=>by have u:=af.cell hW.1 (i:=1) rfl;clear hS hW;go_simp) hS ?_
  simp only[zsA,zsB,zsC]
  refine rd1 2 rfl (fun K hK=>?_)
  go_simp
  refine Calls.mono (HK.out _) ?_
  rintro e Y ⟨rfl,hbx⟩
  refine hK.out _ _ (⟨af.below hS.1 hbx (af.lt hS.1),hS.2.trans (hbx.mono hS.2.size)⟩) (fun hS1=>?_)
  clear hK hS K
  have hS:=hS1
  clear hS1
  refine aY 3 10 (.int .i64 CE) rfl rfl (by kernel_rfl) (by kernel_rfl) (by kernel_rfl) (fun _ _ _ h=>h) (by rfl) (fun W hW=>by have u:=hfd;clear hS hW;go_simp) hS ?_
  simp only[zsA,zsB,zsC]
  refine rd1 6 rfl (fun K hK=>?_)
  go_simp
  refine Calls.mono (HP.out _) ?_
  rintro e Y ⟨rfl,rfl⟩
  exact ⟨rfl,fun h=>absurd (HS2.out.symm.trans h) HNE2.out,fun _=>by rw[HS2.out],hS.2⟩
end
section
open Go.RowKit PK
structure yb (s:Rd):Prop where
 perm:Pm.aN s.p
 fix:∀i,i<26→s.st i=false→s.p i=i
 lst:0<s.long→s.last<26∧s.st s.last=true∧s.p s.last=s.first∧s.first<26
theorem yb.letter {s:Rd} (h:yb s) {i:Nat} (hi:i<26) (hs:s.st i=false):yb (s.letter i):=by
 have hf:=h.fix i hi hs
 unfold Rd.letter
 by_cases hl:s.long=0
 ·simp only[hl,if_true]
  have hp:upd s.p i i=s.p:=by
   funext j
   unfold upd
   by_cases e:j=i
   ·rw[if_pos e,e,hf]
   ·rw[if_neg e]
  refine ⟨?_,fun j hj hst=>?_,fun _=>?_⟩
  ·show Pm.aN (upd s.p i i);rw[hp];exact h.perm
  ·show upd s.p i i j=j
   rw[hp]
   have hst':upd s.st i true j=false:=hst
   unfold upd at hst'
   by_cases e:j=i
   ·rw[if_pos e] at hst';cases hst'
   ·rw[if_neg e] at hst';exact h.fix j hj hst'
  ·refine ⟨hi,?_,?_,hi⟩
   ·show upd s.st i true i=true;unfold upd;rw[if_pos rfl]
   ·show upd s.p i i i=i;unfold upd;rw[if_pos rfl]
 ·simp only[if_neg hl]
  obtain ⟨h1,h2,h3,h4⟩:=h.lst (by omega)
  have hne:s.last≠i:=fun e=>by rw[e,hs] at h2;cases h2
  have hv:∀j,upd (upd s.p s.last i) i s.first j=if j=i then s.first else if j=s.last then i else s.p j:=fun j=>rfl
  refine ⟨⟨fun j hj=>?_,fun j k hj hk e=>?_⟩,fun j hj hst=>?_,fun _=>?_⟩
  ·show upd (upd s.p s.last i) i s.first j<26
   rw[hv]
   by_cases e1:j=i
   ·rw[if_pos e1];exact h4
   ·rw[if_neg e1]
    by_cases e2:j=s.last
    ·rw[if_pos e2];exact hi
    ·rw[if_neg e2];exact h.perm.lt j hj
  ·have e':upd (upd s.p s.last i) i s.first j=upd (upd s.p s.last i) i s.first k:=e
   rw[hv,hv] at e'
   have inj:=h.perm.inj
   by_cases a1:j=i
   ·by_cases b1:k=i
    ·omega
    ·rw[if_pos a1,if_neg b1] at e'
     by_cases b2:k=s.last
     ·rw[if_pos b2] at e'
      have:=inj s.last i h1 hi (by rw[h3,hf];exact e')
      exact absurd this hne
     ·rw[if_neg b2] at e'
      have:=inj s.last k h1 hk (by rw[h3];exact e')
      exact absurd this.symm b2
   ·rw[if_neg a1] at e'
    by_cases b1:k=i
    ·rw[if_pos b1] at e'
     by_cases a2:j=s.last
     ·rw[if_pos a2] at e'
      have:=inj s.last i h1 hi (by rw[h3,hf];exact e'.symm)
      exact absurd this hne
     ·rw[if_neg a2] at e'
      have:=inj s.last j h1 hj (by rw[h3];exact e'.symm)
      exact absurd this.symm a2
    ·rw[if_neg b1] at e'
     by_cases a2:j=s.last
     ·by_cases b2:k=s.last
      ·omega
      ·rw[if_pos a2,if_neg b2] at e'
       have:=inj i k hi hk (by rw[hf];exact e')
       exact absurd this.symm b1
     ·rw[if_neg a2] at e'
      by_cases b2:k=s.last
      ·rw[if_pos b2] at e'
       have:=inj j i hj hi (by rw[hf];exact e')
       exact absurd this a1
      ·rw[if_neg b2] at e'
       exact inj j k hj hk e'
  ·show upd (upd s.p s.last i) i s.first j=j
   have hst':upd s.st i true j=false:=hst
   unfold upd at hst'
   by_cases e:j=i
   ·rw[if_pos e] at hst';cases hst'
   ·rw[if_neg e] at hst'
    rw[hv,if_neg e,if_neg (fun e2=>by rw[e2,h2] at hst';cases hst')]
    exact h.fix j hj hst'
  ·refine ⟨hi,?_,?_,h4⟩
   ·show upd s.st i true i=true;unfold upd;rw[if_pos rfl]
   ·show upd (upd s.p s.last i) i s.first i=s.first;rw[hv,if_pos rfl]
theorem yb.next {s:Rd} (h:yb s) (c:Nat):yb (s.next c):=by
 unfold Rd.next
 by_cases h1:s.op=false∧c=40
 ·rw[if_pos h1];exact ⟨h.perm,h.fix,fun h=>absurd h (Nat.lt_irrefl _)⟩
 ·rw[if_neg h1]
  by_cases h2:s.op=true∧0<s.long∧c=41
  ·rw[if_pos h2];exact ⟨h.perm,h.fix,h.lst⟩
  ·rw[if_neg h2]
   by_cases h3:s.op=true∧65≤c∧c≤90
   ·rw[if_pos h3]
    unfold Rd.n6
    by_cases h4:s.st (c-65)=true
    ·rw[if_pos h4];exact h
    ·rw[if_neg h4];exact h.letter (by omega) (by simpa using h4)
   ·rw[if_neg h3];exact h
theorem zq (t:List UInt8):∀k,yb (rdN t k)
 | 0=>⟨⟨fun _ h=>h,fun _ _ _ _ e=>e⟩,fun _ _ _=>rfl,fun h=>absurd h (Nat.lt_irrefl _)⟩
 | k+1=>(zq t k).next _
theorem Bb {t:List UInt8} (h:(aW t).2.1=0):∃q,Pm.aN q∧(aW t).1=Pm.up q:=by
 unfold aW at h ⊢
 cases hr:ec t t.length with
 | some x =>
  rw[hr] at h
  exfalso
  have:∀n,ec t n=some x→x.1≠0:=fun n=>by
   induction n with
   | zero=>intro h;cases h
   | succ n ih =>
    intro hx
    unfold ec at hx
    cases hn:ec t n with
    | some y=>rw[hn] at hx;cases hx;exact ih hn
    | none =>
     rw[hn] at hx
     by_cases he:(rdN t n).err (t.getD n 0).toNat≠0
     ·simp only[if_pos he] at hx;cases hx;exact he
     ·simp only[if_neg he] at hx;cases hx
  exact this _ hr h
 | none =>
  rw[hr] at h
  by_cases ho:(rdN t t.length).op=true
  ·simp only[if_pos ho] at h;cases h
  ·simp only[if_neg ho];exact ⟨_,(zq t _).perm,rfl⟩
end
section
open Go.RowKit PK Vg
def zT (f:Nat→Int):Bool:=eqI 26 (fun i=>f (f i).toNat) (Pm.up fun i=>i)
def vW (l:List UInt8):Int:=if (aW l).2.1≠0 then (aW l).2.1 else if zT (aW l).1=true then 0 else 1
def Ey (l:List UInt8):Nat:=if (aW l).2.1≠0 then (aW l).2.2 else 0
theorem tT (f g:Nat→Int) (w:World):(binOp .neq 25 (.agg (ints 26 f)) (.agg (ints 26 g))).run Tryz.prog w=.ok (.bool (!eqI 26 f g)) w:=by
 have h:Sem.run Tryz.prog (Op.equal 25 (.agg (ints 26 f)) (.agg (ints 26 g))) w=.ok (eqI 26 f g) w:=gH (P:=Tryz.prog) w 9998 25 3 26 Tryz.underlying25 Tryz.underlying3 lU f g
 simp[binOp,h]
theorem uJ (t:List UInt8):∀(n:Nat) (x:Int × Nat),ec t n=some x→x.2<n
 | 0,x,h=>by cases h
 | n+1,x,h=>by
  unfold ec at h
  cases hn:ec t n with
  | some y=>rw[hn] at h;cases h;have:=uJ t n _ hn;omega
  | none =>
   rw[hn] at h
   by_cases he:(rdN t n).err (t.getD n 0).toNat≠0
   ·simp only[if_pos he] at h;cases h;exact Nat.lt_succ_self n
   ·simp only[if_neg he] at h;cases h
theorem yR (t:List UInt8):(aW t).2.2≤t.length:=by
 unfold aW
 cases hr:ec t t.length with
 | some x=>exact Nat.le_of_lt (uJ t _ _ hr)
 | none =>
  by_cases ho:(rdN t t.length).op=true
  ·simp only[if_pos ho];exact Nat.le_refl _
  ·simp only[if_neg ho];exact Nat.zero_le _
set_option maxRecDepth 100000 in
set_option maxHeartbeats 2000000 in
theorem C4 (l:List UInt8) (p:Nat) (hs:l.length≤65536) (hp:p≤65536) (w:World) :
  Calls Tryz.prog 101 #[wdV l p] w fun e w'=>(vW l=0→e=.returned (.agg (ints 26 (aW l).1)))∧(vW l≠0→e=.panicked [flt (vW l) ((p+Ey l:Nat):Int)])∧Below w.heap.size w w':=by
 obtain ⟨s,hsd⟩:∃s:ByteArray,s=⟨l.toArray⟩:=⟨_,rfl⟩
 have hsl:s.data.toList=l:=by rw[hsd]
 have hz:=Pl.aK s
 rw[hsl] at hz
 unfold wdV
 rw[←hsd]
 have hb1:Below w.heap.size w (w.alloc (.cells #[.string s,.int .i64 (p:Int)] 91)):=(Below.refl _ w).alloc (Nat.le_refl _) _
 have hq1:=af.new w 91 #[.string s,.int .i64 (p:Int)]
 have c0:=af.cell hq1 (i:=0) rfl
 have c1:=af.cell hq1 (i:=1) rfl
 have HB:Hid _:=hb1
 have HQ:Hid (af (w.alloc (.cells #[.string s,.int .i64 (p:Int)] 91)) w.heap.size 91 #[.string s,.int .i64 (p:Int)]):=hq1
 obtain ⟨W2,hW2⟩:∃W2,W2=(w.alloc (.cells #[.string s,.int .i64 (p:Int)] 91)).alloc (.cells (ints 26 fun _=>0) 25):=⟨_,rfl⟩
 have hb2:Below w.heap.size w W2:=by rw[hW2];exact HB.out.alloc HB.out.size _
 have hq2:af W2 w.heap.size 91 #[.string s,.int .i64 (p:Int)]:=by rw[hW2];exact af.alloc hq1 _
 have hr2:af W2 (w.heap.size+1) 25 (ints 26 fun _=>0):=by rw[hW2];have:=af.new (w.alloc (.cells #[.string s,.int .i64 (p:Int)] 91)) 25 (ints 26 fun _=>0);simpa using this
 have HM:Hid (Calls Tryz.prog 123 #[.string s] W2 fun e w'=>e=.returned (.tuple #[.agg (ints 26 (aW l).1),.agg #[.int .i64 (aW l).2.1,.int .i64 ((aW l).2.2:Nat)]])∧Below W2.heap.size W2 w'):=by
  rw[←hsl];exact Fh s (by unfold maxLen;omega) W2
 have u0:=af.cell hq2 (i:=0) rfl
 have HQ2:Hid (af W2 w.heap.size 91 #[.string s,.int .i64 (p:Int)]):=hq2
 have HR2:Hid (af W2 (w.heap.size+1) 25 (ints 26 fun _=>0)):=hr2
 have HB2:Hid _:=hb2
 have hz26:=cm c6
 have HPE:Hid (vW l=if (aW l).2.1≠0 then (aW l).2.1 else if zT (aW l).1=true then 0 else 1):=rfl
 have HPA:Hid (Ey l=if (aW l).2.1≠0 then (aW l).2.2 else 0):=rfl
 have HPR:Hid ((aW l).2.1=0→∃q,Pm.aN q∧(aW l).1=Pm.up q):=Bb
 have HAT:Hid ((aW l).2.2≤l.length):=yR l
 clear hz hsl hsd hb1 hq1 c0 c1 hb2 hq2 hr2
 generalize vW l=E at *
 generalize Ey l=A at *
 generalize aW l=RO at *
 obtain ⟨MP,RE,RA⟩:=RO
 simp only at HM HPE HPA HPR HAT ⊢
 have hra:RA≤65536:=by have:=HAT.out;omega
 go_enter Tryz.func101,Tryz.ntmps101
 go_upto_region 1 with fail
 rw[←hW2]
 clear hW2 HAT
 go_wp2_with fail
 refine Calls.mono HM.out ?_
 rintro e V ⟨rfl,hb⟩
 have hqV:=af.below HQ2.out hb (af.lt HQ2.out)
 have hrV:=af.below HR2.out hb (af.lt HR2.out)
 have HBV:Hid (Below w.heap.size w V):=HB2.out.trans (hb.mono HB2.out.size)
 have hbig:w.heap.size+1<V.heap.size:=af.lt hrV
 clear hb HM u0
 have hF3:af (((V.alloc (.cells (ints 26 fun _=>0) 25)).alloc (.cells #[.int .i64 0,.int .i64 0] 37)).setRow V.heap.size (ints 26 MP)) (V.heap.size+1) 37 #[.int .i64 0,.int .i64 0]:=by
  refine af.aX ?_ _ _ (by omega)
  have:=af.new (V.alloc (.cells (ints 26 fun _=>0) 25)) 37 #[.int .i64 0,.int .i64 0]
  simpa using this
 have g0:=af.cell hF3 (i:=0) rfl
 have g1:=af.cell hF3 (i:=1) rfl
 have g2:=af.frozen hF3 0
 have g3:=af.frozen hF3 1
 have HF3:Hid _:=hF3
 go_upto_region 2 with (first | refine wpList_store_row rfl 25 _ _ rfl V.heap.size (ints 26 MP) rfl rfl 25 _ ((af.new V _ _).alloc _) (by rw[ag];exact aj) (by rw[ag,ag]) (aI _ _) ?_)
 obtain ⟨W3,hW3⟩:∃W3,W3=((((V.alloc (.cells (ints 26 fun _=>0) 25)).alloc (.cells #[.int .i64 0,.int .i64 0] 37)).setRow V.heap.size (ints 26 MP)).setCell ⟨V.heap.size+1,0,none⟩ (.int .i64 RE)).setCell ⟨V.heap.size+1,1,none⟩ (.int .i64 (RA:Nat)):=⟨_,rfl⟩
 have hq3:af W3 w.heap.size 91 #[.string s,.int .i64 (p:Int)]:=by rw[hW3];exact af.setOther (af.setOther (af.aX (af.alloc (af.alloc hqV _) _) _ _ (by omega)) _ _ (by show w.heap.size≠V.heap.size+1;omega)) _ _ (by show w.heap.size≠V.heap.size+1;omega)
 have hr3:af W3 (w.heap.size+1) 25 (ints 26 fun _=>0):=by rw[hW3];exact af.setOther (af.setOther (af.aX (af.alloc (af.alloc hrV _) _) _ _ (by omega)) _ _ (by show w.heap.size+1≠V.heap.size+1;omega)) _ _ (by show w.heap.size+1≠V.heap.size+1;omega)
 have hm3:af W3 V.heap.size 25 (ints 26 MP):=by rw[hW3];exact af.setOther (af.setOther (af.row (af.alloc (af.new V _ _) _) _) _ _ (by show V.heap.size≠V.heap.size+1;omega)) _ _ (by show V.heap.size≠V.heap.size+1;omega)
 have hf3:af W3 (V.heap.size+1) 37 #[.int .i64 RE,.int .i64 (RA:Nat)]:=by rw[hW3];exact af.set (af.set HF3.out 0 _) 1 _
 have HB3:Hid (Below w.heap.size w W3):=by
  rw[Hid,hW3]
  exact ((PK.Below.setRow ((HBV.out.alloc HBV.out.size _).alloc (by have:=HBV.out.size;simp;omega) _) _ HBV.out.size _).setCell (p:=⟨V.heap.size+1,0,none⟩) (by have:=HBV.out.size;show _≤V.heap.size+1;omega) _).setCell (p:=⟨V.heap.size+1,1,none⟩) (by have:=HBV.out.size;show _≤V.heap.size+1;omega) _
 rw[←hW3]
 have u1:=af.cell hq3 (i:=1) rfl
 have v0:=af.cell hf3 (i:=0) rfl
 have v1:=af.cell hf3 (i:=1) rfl
 have hsum:(p:Int)+(RA:Int)=((p+RA:Nat):Int):=by omega
 have HSUM:Hid _:=hsum
 have hp3:(p:Int)≤65536:=by omega
 have hra3:(RA:Int)≤65536:=by omega
 clear hW3 hqV hrV hF3 hsum g0 g1 g2 g3 HF3
 by_cases hE:RE=0
 ·have HPP:Hid (Calls Tryz.prog 24 #[.int .i64 RE,.int .i64 ((p:Int)+(RA:Int))] W3 fun e w'=>e=.returned (.tuple #[])∧w'=W3):=by rw[hE];exact fX _ W3
  obtain ⟨qq,hqq,hMP⟩:=HPR.out hE
  have HPE2:Hid (E=if zT MP=true then 0 else 1):=by rw[Hid,HPE.out,if_neg (fun h=>h hE)]
  have HPA2:Hid (A=0):=by rw[Hid,HPA.out,if_neg (fun h=>h hE)]
  have HTH:Hid (∀X,Calls Tryz.prog 124 #[.agg (ints 26 MP),.agg (ints 26 MP)] X fun e w'=>e=.returned (.tuple #[.agg (ints 26 (Pm.up fun i=>qq (qq i))),.int .i64 0])∧Below X.heap.size X w'):=fun X=>by rw[hMP];exact then_ok qq qq hqq hqq X
  have HSU:Hid (zT MP=eqI 26 (Pm.up fun i=>qq (qq i)) (Pm.up fun i=>i)):=by
   rw[Hid,hMP]
   rfl
  clear hE hMP hqq HPE HPA HPR
  go_wp2_with fail
  refine Calls.mono HPP.out ?_
  rintro e V2 ⟨rfl,rfl⟩
  go_wp2_with (first | refine wpList_load_row rfl 25 _ rfl V.heap.size rfl 25 (ints 26 MP) (0,0) _ hm3 Tryz.underlying25 rfl (by rw[ag];exact aj) ?_)
  refine Calls.mono (HTH.out _) ?_
  rintro e V4 ⟨rfl,hb4⟩
  have hq4:=af.below hq3 hb4 (af.lt hq3)
  have hr4:=af.below hr3 hb4 (af.lt hr3)
  have hm4:=af.below hm3 hb4 (af.lt hm3)
  have HB4:Hid (Below w.heap.size w V4):=HB3.out.trans (hb4.mono HB3.out.size)
  have hbig4:w.heap.size+1<V4.heap.size∧V.heap.size<V4.heap.size:=⟨af.lt hr4,af.lt hm4⟩
  generalize hTW:(Pm.up fun i=>qq (qq i))=TW at *
  clear hb4 hTW HTH HPP hq3 hr3 hm3 hf3
  go_upto_region 4 with (first | refine wpList_store_row rfl 25 _ _ rfl V4.heap.size (ints 26 TW) rfl rfl 25 _ (af.new V4 _ _) (by rw[ag];exact aj) (by rw[ag,ag]) (aI _ _) ?_)
  obtain ⟨W5,hW5⟩:∃W5,W5=(V4.alloc (.cells (ints 26 fun _=>0) 25)).setRow V4.heap.size (ints 26 TW):=⟨_,rfl⟩
  have hq5:af W5 w.heap.size 91 #[.string s,.int .i64 (p:Int)]:=by rw[hW5];exact af.aX (af.alloc hq4 _) _ _ (by omega)
  have hr5:af W5 (w.heap.size+1) 25 (ints 26 fun _=>0):=by rw[hW5];exact af.aX (af.alloc hr4 _) _ _ (by omega)
  have hm5:af W5 V.heap.size 25 (ints 26 MP):=by rw[hW5];exact af.aX (af.alloc hm4 _) _ _ (by omega)
  have ht5:af W5 V4.heap.size 25 (ints 26 TW):=by rw[hW5];exact af.row (af.new V4 _ _) _
  have HB5:Hid (Below w.heap.size w W5):=by rw[Hid,hW5];exact PK.Below.setRow (HB4.out.alloc HB4.out.size _) _ HB4.out.size _
  rw[←hW5]
  have hbig5:V4.heap.size<W5.heap.size:=af.lt ht5
  have HQ5:Hid (af W5 w.heap.size 91 #[.string s,.int .i64 (p:Int)]):=hq5
  have HR5:Hid (af W5 (w.heap.size+1) 25 (ints 26 fun _=>0)):=hr5
  have HM5:Hid (af W5 V.heap.size 25 (ints 26 MP)):=hm5
  have HT5:Hid (af W5 V4.heap.size 25 (ints 26 TW)):=ht5
  have HSA:Hid (∀X,Calls Tryz.prog 57 #[] X fun e w'=>e=.returned (.agg (ints 26 (Pm.up fun i=>i)))∧Below X.heap.size X w'):=fun X=>pZ X
  have hnq:=tT TW (Pm.up fun i=>i)
  generalize (Pm.up fun i=>i)=ID at *
  clear hW5 hq4 hr4 hm4 hq5 hr5 hm5 ht5 u1 v0 v1 hz26
  refine wp_region_noPanic ?_
  refine wp_region_held_drew (S:=fun W=>af W V4.heap.size 25 (ints 26 TW)∧Below W5.heap.size W5 W) (by kernel_rfl) ⟨HT5.out,(Below.refl _ _).drew⟩ (fun hS=>?_)
  refine vtk 0 27 (.agg (ints 26 TW)) rfl (fun W hW=>by have u:=run_loadVar_row (P:=Tryz.prog) W V4.heap.size 25 25 (ints 26 TW) (0,0) _ hW.1 Tryz.underlying25 rfl (by rw[ag];exact aj);clear hS hW;simp[execOp,Act.eval,Instr.loadAt,Instr.sureAddr,u]) hS ?_
  simp only[zsA,zsB,zsC]
  refine rd1 1 rfl (fun K hK=>?_)
  go_simp
  refine Calls.mono (HSA.out _) ?_
  rintro e Y ⟨rfl,hbx⟩
  refine hK.out _ _ (⟨af.below hS.1 hbx (af.lt hS.1),hS.2.trans (hbx.mono hS.2.size)⟩) (fun hS1=>?_)
  clear hK hS K
  have hS:=hS1
  clear hS1
  refine vtk 2 29 (.bool (!eqI 26 TW ID)) rfl (fun W hW=>by have u:=hnq;clear hS hW;go_simp) hS ?_
  simp only[zsA,zsB,zsC]
  refine wpAnyH_done (by kernel_rfl) ?_ _
  refine NoPanic.normal ?_
  have hbY:=hS.2
  have hqY:=af.below HQ5.out hbY (af.lt HQ5.out)
  have hrY:=af.below HR5.out hbY (af.lt HR5.out)
  have hmY:=af.below HM5.out hbY (af.lt HM5.out)
  have HBY:Hid (Below w.heap.size w Y):=HB5.out.trans (hbY.mono HB5.out.size)
  have y1:=af.cell hqY (i:=1) rfl
  rw[HSU.out] at HPE2
  clear hS hbY hqY HQ5 HR5 HM5 HT5 hnq HSA
  cases hq:eqI 26 TW ID with
  | true =>
   have HE0:Hid (E=0):=by rw[Hid,HPE2.out,hq];rfl
   have HR6:Hid (af (Y.setRow (w.heap.size+1) (ints 26 MP)) (w.heap.size+1) 25 (ints 26 MP)):=af.row hrY _
   have HB6:Hid (Below w.heap.size w (Y.setRow (w.heap.size+1) (ints 26 MP))):=PK.Below.setRow HBY.out _ (by omega) _
   go_wp2_with (first | refine wpList_load_row rfl 25 _ rfl V.heap.size rfl 25 (ints 26 MP) (0,0) _ hmY Tryz.underlying25 rfl (by rw[ag];exact aj) ?_ | refine wpList_store_row rfl 25 _ _ rfl (w.heap.size+1) (ints 26 MP) rfl rfl 25 _ hrY (by rw[ag];exact aj) (by rw[ag,ag]) (aI _ _) ?_)
   exact ⟨rfl,_,bV rfl _ _ (w.heap.size+1) 25 (ints 26 MP) (0,0) _ rfl HR6.out Tryz.underlying25 rfl (by rw[ag];exact aj),fun _=>rfl,fun h=>absurd HE0.out h,HB6.out⟩
  | false =>
   have HE1:Hid (E=1):=by rw[Hid,HPE2.out,hq];rfl
   have HT:Hid _:=cG 1 p Y
   go_wp2_with fail
   refine Calls.mono HT.out ?_
   rintro e V6 ⟨rfl,rfl⟩
   exact ⟨rfl,fun h=>absurd (HE1.out.symm.trans h) (by decide),fun _=>by rw[HE1.out,HPA2.out];rfl,HBY.out⟩
 ·have HPP:Hid (Calls Tryz.prog 24 #[.int .i64 RE,.int .i64 ((p:Int)+(RA:Int))] W3 fun e w'=>e=.panicked [flt RE ((p+RA:Nat):Int)]∧w'=W3):=by rw[HSUM.out];exact gJ RE _ (by simpa using hE) W3
  have HPE2:Hid (E=RE):=by rw[Hid,HPE.out,if_pos hE]
  have HPA2:Hid (A=RA):=by rw[Hid,HPA.out,if_pos hE]
  have HNE:Hid (RE≠0):=hE
  clear hE HPE HPA HPR
  go_wp2_with fail
  refine Calls.mono HPP.out ?_
  rintro e V2 ⟨rfl,rfl⟩
  exact ⟨rfl,fun h=>absurd (HPE2.out.symm.trans h) HNE.out,fun _=>by rw[HPE2.out,HPA2.out],HB3.out⟩
end
end Go.Proofs.YtgacaecjinlhiaaGreatDoor
