import Derived.Test.YtpdemelchhkfaaaJn8
namespace Go.Proofs.Ytpdemelchhkfaaa
namespace Cs
open Go.ConcN (sumTo sumTo_congr)
structure Wd where
 l:Nat
 w:Nat
 s:Nat
 q:Nat
 deriving DecidableEq
def Wd.ok (W:Wd):Prop:=W.l≤1∧W.w≤1∧W.s≤1
inductive Mx
 | no | ld | l0 | r0
 | sq (o:Wd) (a s:Bool) (it:Nat)
 | c1 (o:Wd) (it:Nat)
 | r1 (a s:Bool) (it:Nat)
 | c2 (o:Wd) (a s:Bool) (it:Nat)
 | r3 (a s:Bool) (it:Nat)
 | t1 (s:Bool) | s1 (s:Bool) | t2 (s:Bool) | r2 (s:Bool)
 | a1 (o:Wd) (s:Bool)
 | le | la | cr | ud | u0
 | uc (o:Wd) | u2 | us | ux | ue
def Mx.head (o:Wd) (a s:Bool) (it:Nat):Mx:=if o.l=1∧o.s=0 then .sq o a s it else .c2 o a s it
def Wd.next (o:Wd) (a s:Bool):Wd:={ l:=if o.s=0 then 1 else o.l,w:=if a=true then 0 else o.w,s:=if s=true∧o.l=1 then 1 else o.s,q:=if o.l=0∧o.s=0 then o.q else o.q+1 }
inductive Mv:Mx→Wd→Nat→Mx→Wd→Nat→Prop
 | ld {W m}:Mv .ld W m .l0 W m
 | l0h {m}:Mv .l0 ⟨0,0,0,0⟩ m .le ⟨1,0,0,0⟩ m
 | l0m {W m} (h:W≠⟨0,0,0,0⟩):Mv .l0 W m .r0 W m
 | r0 {W m}:Mv .r0 W m (.head W false false 0) W m
 | sqn {o a s it W m}:Mv (.sq o a s it) W m (.c2 o a s it) W m
 | sqc {o s it W m} (hi:it<4) (hw:o.w=0) (hq:o.q≠0):Mv (.sq o false s it) W m (.c1 o it) W m
 | sqs {o a s it W m} (hi:it<4):Mv (.sq o a s it) W m (.r1 a s it) W m
 | c1h {o it m}:Mv (.c1 o it) o m (.r1 true false it) { o with w:=1 } m
 | c1m {o it W m} (h:W≠o):Mv (.c1 o it) W m (.r1 false false it) W m
 | r1 {a s it W m}:Mv (.r1 a s it) W m (.head W a s (it+1)) W m
 | c2l {o a s it m} (hl:o.l=0) (hs:o.s=0):Mv (.c2 o a s it) o m .le (o.next a s) m
 | c2t {o a s it m} (h:¬(o.l=0∧o.s=0)):Mv (.c2 o a s it) o m (.t1 s) (o.next a s) m
 | c2s {o a s it m} (h:¬(o.l=0∧o.s=0)):Mv (.c2 o a s it) o m (.s1 s) (o.next a s) m
 | c2m {o a s it W m} (h:W≠o):Mv (.c2 o a s it) W m (.r3 a s it) W m
 | r3 {a s it W m}:Mv (.r3 a s it) W m (.head W a s it) W m
 | t1 {s W m}:Mv (.t1 s) W m (.s1 s) W m
 | s1t {s W m}:Mv (.s1 s) W (m+1) (.t2 s) W m
 | s1r {s W m}:Mv (.s1 s) W (m+1) (.r2 s) W m
 | t2 {s s' W m}:Mv (.t2 s) W m (.r2 s') W m
 | r2n {s W m} (h:W.s=0):Mv (.r2 s) W m (.head W true s 0) W m
 | r2h {s W m} (h:W.s=1):Mv (.r2 s) W m (.a1 W s) W m
 | a1e {o s W m} (h:s=false∨o.q=1):Mv (.a1 o s) W m .le { W with l:=1,s:=0,q:=W.q-1 } m
 | a1k {o s W m} (h:¬(s=false∨o.q=1)):Mv (.a1 o s) W m .le { W with l:=1,q:=W.q-1 } m
 | le {W m}:Mv .le W m .la W m
 | la {W m}:Mv .la W m .cr W m
 | cr {W m}:Mv .cr W m .ud W m
 | ud {W m}:Mv .ud W m .u0 W m
 | u0x {W m} (h:W.s=1):Mv .u0 W m .ux { W with l:=0 } m
 | u0e {W m} (h:W.s=0) (h2:W.q=0∨W.w=1):Mv .u0 W m .ue { W with l:=0 } m
 | u0c {W m} (h:W.s=0) (h2:W.q≠0) (h3:W.w=0):Mv .u0 W m (.uc { W with l:=0 }) { W with l:=0 } m
 | uch {o m}:Mv (.uc o) o m .us { o with w:=1,q:=o.q-1 } m
 | ucm {o W m} (h:W≠o):Mv (.uc o) W m .u2 W m
 | u2e {W m} (h:W.q=0∨W.l=1∨W.w=1∨W.s=1):Mv .u2 W m .ue W m
 | u2c {W m} (h:W.q≠0∧W.l=0∧W.w=0∧W.s=0):Mv .u2 W m (.uc W) W m
 | us {W m}:Mv .us W m .ue W (m+1)
 | ux {W m}:Mv .ux W m .ue W (m+1)
 | ue {W m}:Mv .ue W m .no W m
 | ent {W m}:Mv .no W m .ld W m
def dB:Mx→Nat
 | .le | .la | .cr | .ud | .u0=>1
 | _=>0
def jM:Mx→Nat
 | .sq _ a _ _ | .r1 a _ _ | .c2 _ a _ _ | .r3 a _ _=>a.toNat
 | _=>0
def uM:Mx→Nat
 | .us=>1
 | _=>0
def vM:Mx→Nat
 | .t2 _ | .r2 _=>1
 | _=>0
def xM:Mx→Nat
 | .ux=>1
 | _=>0
def aM:Mx→Nat
 | .a1 _ _=>1
 | _=>0
def qM:Mx→Nat
 | .t1 _ | .s1 _=>1
 | _=>0
def cM:Mx→Nat
 | .uc _ | .u2=>1
 | _=>0
def lcM:Mx→Prop
 | .sq o a s it=>o.ok∧o.l=1∧o.s=0∧(a=true→o.w=1)∧(a=false→s=false)∧it≤4
 | .c1 o it=>o.ok∧o.l=1∧o.s=0∧o.w=0∧o.q≠0∧it<4
 | .r1 a s it=>(a=false→s=false)∧it<4
 | .c2 o a s it=>o.ok∧(a=true→o.w=1∧o.s=0)∧(a=false→s=false)∧it≤4
 | .r3 a s it=>(a=false→s=false)∧it≤4
 | .uc o=>o.ok∧o.l=0∧o.w=0∧o.s=0∧o.q≠0
 | .a1 o _=>o.ok
 | _=>True
def sm (n:Nat) (f:Mx→Nat) (xs:Nat→Mx):Nat:=sumTo n (fun i=>f (xs i))
structure MInv (xs:Nat→Mx) (n:Nat) (W:Wd) (m:Nat):Prop where
 ok:W.ok
 lc:∀i,i<n→lcM (xs i)
 hd:sm n dB xs=W.l
 s0:W.s=0→sm n xM xs=0∧sm n aM xs=0∧sm n jM xs+sm n uM xs+sm n vM xs+m=W.w∧W.q+sm n uM xs+m=sm n qM xs
 s1:W.s=1→W.w=0∧sm n jM xs=0∧sm n uM xs=0∧sm n xM xs+m+sm n vM xs+sm n aM xs+W.l=1∧W.q=sm n qM xs+sm n vM xs+sm n aM xs
 lv:W.s=0→W.l=0→W.w=0→0<W.q→0<sm n cM xs
variable {xs:Nat→Mx} {n i m m':Nat} {W W':Wd} {x x':Mx}
theorem dM (f:Mx→Nat) (hi:i<n):sm n f (aJ xs i x')+f (xs i)=sm n f xs+f x':=by
 have:=fo (fun _ z=>f z) xs x' hi
 unfold sm
 omega
theorem ep (f:Mx→Nat):∀{n},i<n→f (xs i)≤sm n f xs
 | n+1,h=>by
  show f (xs i)≤sm n f xs+f (xs n)
  by_cases e:i=n
  ·subst e;omega
  ·have:=ep f (n:=n) (by omega)
   omega
theorem iC (o:Wd) (a s:Bool) (it:Nat):dB (.head o a s it)=0:=by unfold Mx.head;split <;> rfl
theorem jV (o:Wd) (a s:Bool) (it:Nat):jM (.head o a s it)=a.toNat:=by unfold Mx.head;split <;> rfl
theorem pg (o:Wd) (a s:Bool) (it:Nat):uM (.head o a s it)=0:=by unfold Mx.head;split <;> rfl
theorem pE (o:Wd) (a s:Bool) (it:Nat):vM (.head o a s it)=0:=by unfold Mx.head;split <;> rfl
theorem oz (o:Wd) (a s:Bool) (it:Nat):xM (.head o a s it)=0:=by unfold Mx.head;split <;> rfl
theorem pJ (o:Wd) (a s:Bool) (it:Nat):aM (.head o a s it)=0:=by unfold Mx.head;split <;> rfl
theorem oh (o:Wd) (a s:Bool) (it:Nat):qM (.head o a s it)=0:=by unfold Mx.head;split <;> rfl
theorem oL (o:Wd) (a s:Bool) (it:Nat):cM (.head o a s it)=0:=by unfold Mx.head;split <;> rfl
theorem lD {o:Wd} {a s:Bool} {it:Nat} (h:o.ok) (h1:a=true→o.w=1∧o.s=0) (h2:a=false→s=false) (h3:it≤4):lcM (.head o a s it):=by
 unfold Mx.head
 split
 ·rename_i e
  exact ⟨h,e.1,e.2,fun e=>(h1 e).1,h2,h3⟩
 ·exact ⟨h,h1,h2,h3⟩
set_option maxHeartbeats 4000000 in
theorem MInv.step (h:MInv xs n W m) (hi:i<n) (hx:xs i=x) (hm:Mv x W m x' W' m'):MInv (aJ xs i x') n W' m':=by
 have eH:=dM (xs:=xs) (x':=x') dB hi
 have eT:=dM (xs:=xs) (x':=x') jM hi
 have eU:=dM (xs:=xs) (x':=x') uM hi
 have eV:=dM (xs:=xs) (x':=x') vM hi
 have eX:=dM (xs:=xs) (x':=x') xM hi
 have eA:=dM (xs:=xs) (x':=x') aM hi
 have eQ:=dM (xs:=xs) (x':=x') qM hi
 have eC:=dM (xs:=xs) (x':=x') cM hi
 have gT:=ep (xs:=xs) jM hi
 have gU:=ep (xs:=xs) uM hi
 have gV:=ep (xs:=xs) vM hi
 have gX:=ep (xs:=xs) xM hi
 have gA:=ep (xs:=xs) aM hi
 have gQ:=ep (xs:=xs) qM hi
 have gH:=ep (xs:=xs) dB hi
 have hl:=h.lc i hi
 obtain ⟨⟨k1,k2,k3⟩,hlc,hd,s0,s1,lv⟩:=h
 rw[hx] at eH eT eU eV eX eA eQ eC gH gT gU gV gX gA gQ hl
 suffices hs:W'.ok∧lcM x'∧sm n dB (aJ xs i x')=W'.l∧(W'.s=0→sm n xM (aJ xs i x')=0∧sm n aM (aJ xs i x')=0∧sm n jM (aJ xs i x')+sm n uM (aJ xs i x')+sm n vM (aJ xs i x')+m'=W'.w∧W'.q+sm n uM (aJ xs i x')+m'=sm n qM (aJ xs i x')) ∧
  (W'.s=1→W'.w=0∧sm n jM (aJ xs i x')=0∧sm n uM (aJ xs i x')=0∧sm n xM (aJ xs i x')+m'+sm n vM (aJ xs i x')+sm n aM (aJ xs i x')+W'.l=1∧W'.q=sm n qM (aJ xs i x')+sm n vM (aJ xs i x')+sm n aM (aJ xs i x')) ∧
  (W'.s=0→W'.l=0→W'.w=0→0<W'.q→0<sm n cM (aJ xs i x')) from ⟨hs.1,fun j hj=>by
   by_cases e:j=i
   ·subst e;rw[an];exact hs.2.1
   ·rw[aF _ _ e];exact hlc j hj,hs.2.2.1,hs.2.2.2.1,hs.2.2.2.2.1,hs.2.2.2.2.2⟩
 generalize sm n dB (aJ xs i x')=H' at *
 generalize sm n jM (aJ xs i x')=T' at *
 generalize sm n uM (aJ xs i x')=U' at *
 generalize sm n vM (aJ xs i x')=V' at *
 generalize sm n xM (aJ xs i x')=X' at *
 generalize sm n aM (aJ xs i x')=A' at *
 generalize sm n qM (aJ xs i x')=Q' at *
 generalize sm n cM (aJ xs i x')=C' at *
 generalize sm n dB xs=H at *
 generalize sm n jM xs=T at *
 generalize sm n uM xs=U at *
 generalize sm n vM xs=V at *
 generalize sm n xM xs=X at *
 generalize sm n aM xs=A at *
 generalize sm n qM xs=Q at *
 generalize sm n cM xs=C at *
 clear hx hlc hi
 cases hm with
 | ld =>
  replace eH:H'+0=H+0:=eH
  replace gH:0≤H:=gH
  replace eT:T'+0=T+0:=eT
  replace gT:0≤T:=gT
  replace eU:U'+0=U+0:=eU
  replace gU:0≤U:=gU
  replace eV:V'+0=V+0:=eV
  replace gV:0≤V:=gV
  replace eX:X'+0=X+0:=eX
  replace gX:0≤X:=gX
  replace eA:A'+0=A+0:=eA
  replace gA:0≤A:=gA
  replace eQ:Q'+0=Q+0:=eQ
  replace gQ:0≤Q:=gQ
  replace eC:C'+0=C+0:=eC
  obtain ⟨wl,ww,ws,wq⟩:=W
  refine ⟨⟨?_,?_,?_⟩,trivial,?_,?_,?_,?_⟩
  all_goals (try dsimp only at *)
  all_goals omega
 | l0h =>
  replace eH:H'+0=H+1:=eH
  replace gH:0≤H:=gH
  replace eT:T'+0=T+0:=eT
  replace gT:0≤T:=gT
  replace eU:U'+0=U+0:=eU
  replace gU:0≤U:=gU
  replace eV:V'+0=V+0:=eV
  replace gV:0≤V:=gV
  replace eX:X'+0=X+0:=eX
  replace gX:0≤X:=gX
  replace eA:A'+0=A+0:=eA
  replace gA:0≤A:=gA
  replace eQ:Q'+0=Q+0:=eQ
  replace gQ:0≤Q:=gQ
  replace eC:C'+0=C+0:=eC
  refine ⟨⟨?_,?_,?_⟩,trivial,?_,?_,?_,?_⟩
  all_goals (try dsimp only at *)
  all_goals omega
 | l0m h =>
  clear h
  replace eH:H'+0=H+0:=eH
  replace gH:0≤H:=gH
  replace eT:T'+0=T+0:=eT
  replace gT:0≤T:=gT
  replace eU:U'+0=U+0:=eU
  replace gU:0≤U:=gU
  replace eV:V'+0=V+0:=eV
  replace gV:0≤V:=gV
  replace eX:X'+0=X+0:=eX
  replace gX:0≤X:=gX
  replace eA:A'+0=A+0:=eA
  replace gA:0≤A:=gA
  replace eQ:Q'+0=Q+0:=eQ
  replace gQ:0≤Q:=gQ
  replace eC:C'+0=C+0:=eC
  obtain ⟨wl,ww,ws,wq⟩:=W
  refine ⟨⟨?_,?_,?_⟩,trivial,?_,?_,?_,?_⟩
  all_goals (try dsimp only at *)
  all_goals omega
 | r0 =>
  have hlc:lcM (.head W false false 0):=lD ⟨k1,k2,k3⟩ (fun e=>by cases e) (fun _=>rfl) (by omega)
  rw[iC] at eH
  replace eH:H'+0=H+0:=eH
  replace gH:0≤H:=gH
  rw[jV] at eT
  replace eT:T'+0=T+0:=eT
  replace gT:0≤T:=gT
  rw[pg] at eU
  replace eU:U'+0=U+0:=eU
  replace gU:0≤U:=gU
  rw[pE] at eV
  replace eV:V'+0=V+0:=eV
  replace gV:0≤V:=gV
  rw[oz] at eX
  replace eX:X'+0=X+0:=eX
  replace gX:0≤X:=gX
  rw[pJ] at eA
  replace eA:A'+0=A+0:=eA
  replace gA:0≤A:=gA
  rw[oh] at eQ
  replace eQ:Q'+0=Q+0:=eQ
  replace gQ:0≤Q:=gQ
  rw[oL] at eC
  replace eC:C'+0=C+0:=eC
  refine ⟨⟨?_,?_,?_⟩,hlc,?_,?_,?_,?_⟩
  all_goals (try dsimp only at *)
  all_goals omega
 | sqn =>
  rename_i o a s it
  replace eH:H'+0=H+0:=eH
  replace gH:0≤H:=gH
  replace eT:T'+a.toNat=T+a.toNat:=eT
  replace gT:a.toNat≤T:=gT
  replace eU:U'+0=U+0:=eU
  replace gU:0≤U:=gU
  replace eV:V'+0=V+0:=eV
  replace gV:0≤V:=gV
  replace eX:X'+0=X+0:=eX
  replace gX:0≤X:=gX
  replace eA:A'+0=A+0:=eA
  replace gA:0≤A:=gA
  replace eQ:Q'+0=Q+0:=eQ
  replace gQ:0≤Q:=gQ
  replace eC:C'+0=C+0:=eC
  obtain ⟨wl,ww,ws,wq⟩:=W
  refine ⟨⟨?_,?_,?_⟩,⟨hl.1,fun e=>⟨hl.2.2.2.1 e,hl.2.2.1⟩,hl.2.2.2.2.1,hl.2.2.2.2.2⟩,?_,?_,?_,?_⟩
  all_goals (try dsimp only at *)
  all_goals omega
 | sqc hi hw hq =>
  replace eH:H'+0=H+0:=eH
  replace gH:0≤H:=gH
  replace eT:T'+0=T+0:=eT
  replace gT:0≤T:=gT
  replace eU:U'+0=U+0:=eU
  replace gU:0≤U:=gU
  replace eV:V'+0=V+0:=eV
  replace gV:0≤V:=gV
  replace eX:X'+0=X+0:=eX
  replace gX:0≤X:=gX
  replace eA:A'+0=A+0:=eA
  replace gA:0≤A:=gA
  replace eQ:Q'+0=Q+0:=eQ
  replace gQ:0≤Q:=gQ
  replace eC:C'+0=C+0:=eC
  obtain ⟨wl,ww,ws,wq⟩:=W
  refine ⟨⟨?_,?_,?_⟩,⟨hl.1,hl.2.1,hl.2.2.1,hw,hq,hi⟩,?_,?_,?_,?_⟩
  all_goals (try dsimp only at *)
  all_goals omega
 | sqs hi =>
  rename_i o a s it
  replace eH:H'+0=H+0:=eH
  replace gH:0≤H:=gH
  replace eT:T'+a.toNat=T+a.toNat:=eT
  replace gT:a.toNat≤T:=gT
  replace eU:U'+0=U+0:=eU
  replace gU:0≤U:=gU
  replace eV:V'+0=V+0:=eV
  replace gV:0≤V:=gV
  replace eX:X'+0=X+0:=eX
  replace gX:0≤X:=gX
  replace eA:A'+0=A+0:=eA
  replace gA:0≤A:=gA
  replace eQ:Q'+0=Q+0:=eQ
  replace gQ:0≤Q:=gQ
  replace eC:C'+0=C+0:=eC
  obtain ⟨wl,ww,ws,wq⟩:=W
  refine ⟨⟨?_,?_,?_⟩,⟨hl.2.2.2.2.1,hi⟩,?_,?_,?_,?_⟩
  all_goals (try dsimp only at *)
  all_goals omega
 | c1h =>
  obtain ⟨o1,o2,o3,o4,o5,it4⟩:=hl
  replace eH:H'+0=H+0:=eH
  replace gH:0≤H:=gH
  replace eT:T'+0=T+1:=eT
  replace gT:0≤T:=gT
  replace eU:U'+0=U+0:=eU
  replace gU:0≤U:=gU
  replace eV:V'+0=V+0:=eV
  replace gV:0≤V:=gV
  replace eX:X'+0=X+0:=eX
  replace gX:0≤X:=gX
  replace eA:A'+0=A+0:=eA
  replace gA:0≤A:=gA
  replace eQ:Q'+0=Q+0:=eQ
  replace gQ:0≤Q:=gQ
  replace eC:C'+0=C+0:=eC
  obtain ⟨wl,ww,ws,wq⟩:=W
  refine ⟨⟨?_,?_,?_⟩,⟨fun e=>(by cases e),it4⟩,?_,?_,?_,?_⟩
  all_goals (try dsimp only at *)
  all_goals omega
 | c1m h =>
  clear h
  replace eH:H'+0=H+0:=eH
  replace gH:0≤H:=gH
  replace eT:T'+0=T+0:=eT
  replace gT:0≤T:=gT
  replace eU:U'+0=U+0:=eU
  replace gU:0≤U:=gU
  replace eV:V'+0=V+0:=eV
  replace gV:0≤V:=gV
  replace eX:X'+0=X+0:=eX
  replace gX:0≤X:=gX
  replace eA:A'+0=A+0:=eA
  replace gA:0≤A:=gA
  replace eQ:Q'+0=Q+0:=eQ
  replace gQ:0≤Q:=gQ
  replace eC:C'+0=C+0:=eC
  obtain ⟨wl,ww,ws,wq⟩:=W
  refine ⟨⟨?_,?_,?_⟩,⟨fun _=>rfl,hl.2.2.2.2.2⟩,?_,?_,?_,?_⟩
  all_goals (try dsimp only at *)
  all_goals omega
 | r1 =>
  rename_i a s it
  have hlc:lcM (.head W a s (it+1)):=lD ⟨k1,k2,k3⟩ (fun e=>by subst e;have gT':1≤T:=gT;omega) hl.1 (by have:=hl.2;omega)
  rw[iC] at eH
  replace eH:H'+0=H+0:=eH
  replace gH:0≤H:=gH
  rw[jV] at eT
  replace eT:T'+a.toNat=T+a.toNat:=eT
  replace gT:a.toNat≤T:=gT
  rw[pg] at eU
  replace eU:U'+0=U+0:=eU
  replace gU:0≤U:=gU
  rw[pE] at eV
  replace eV:V'+0=V+0:=eV
  replace gV:0≤V:=gV
  rw[oz] at eX
  replace eX:X'+0=X+0:=eX
  replace gX:0≤X:=gX
  rw[pJ] at eA
  replace eA:A'+0=A+0:=eA
  replace gA:0≤A:=gA
  rw[oh] at eQ
  replace eQ:Q'+0=Q+0:=eQ
  replace gQ:0≤Q:=gQ
  rw[oL] at eC
  replace eC:C'+0=C+0:=eC
  refine ⟨⟨?_,?_,?_⟩,hlc,?_,?_,?_,?_⟩
  all_goals (try dsimp only at *)
  all_goals omega
 | c2l hl0 hs0 =>
  rename_i a s it
  obtain ⟨_,h1,h2,h3⟩:=hl
  replace eH:H'+0=H+1:=eH
  replace gH:0≤H:=gH
  replace eT:T'+a.toNat=T+0:=eT
  replace gT:a.toNat≤T:=gT
  replace eU:U'+0=U+0:=eU
  replace gU:0≤U:=gU
  replace eV:V'+0=V+0:=eV
  replace gV:0≤V:=gV
  replace eX:X'+0=X+0:=eX
  replace gX:0≤X:=gX
  replace eA:A'+0=A+0:=eA
  replace gA:0≤A:=gA
  replace eQ:Q'+0=Q+0:=eQ
  replace gQ:0≤Q:=gQ
  replace eC:C'+0=C+0:=eC
  obtain ⟨wl,ww,ws,wq⟩:=W
  cases a with
  | false =>
   have hs:=h2 rfl
   subst hs
   replace eT:T'+0=T+0:=eT
   clear gT h1 h2
   dsimp only at *
   (rcases (by omega:wl=0∨wl=1) with e1 | e1) <;> (rcases (by omega:ws=0∨ws=1) with e2 | e2) <;> subst e1 <;> subst e2 <;> simp[Wd.ok,Wd.next,lcM] at*<;> omega
  | true =>
   obtain ⟨h4,h5⟩:=h1 rfl
   replace eT:T'+1=T+0:=eT
   replace gT:1≤T:=gT
   clear h1 h2
   cases s with
   | false =>
    dsimp only at *
    (rcases (by omega:wl=0∨wl=1) with e1 | e1) <;> (rcases (by omega:ws=0∨ws=1) with e2 | e2) <;> subst e1 <;> subst e2 <;> simp[Wd.ok,Wd.next,lcM] at*<;> omega
   | true =>
    dsimp only at *
    (rcases (by omega:wl=0∨wl=1) with e1 | e1) <;> (rcases (by omega:ws=0∨ws=1) with e2 | e2) <;> subst e1 <;> subst e2 <;> simp[Wd.ok,Wd.next,lcM] at*<;> omega
 | c2t h =>
  rename_i a s it
  obtain ⟨_,h1,h2,h3⟩:=hl
  replace eH:H'+0=H+0:=eH
  replace gH:0≤H:=gH
  replace eT:T'+a.toNat=T+0:=eT
  replace gT:a.toNat≤T:=gT
  replace eU:U'+0=U+0:=eU
  replace gU:0≤U:=gU
  replace eV:V'+0=V+0:=eV
  replace gV:0≤V:=gV
  replace eX:X'+0=X+0:=eX
  replace gX:0≤X:=gX
  replace eA:A'+0=A+0:=eA
  replace gA:0≤A:=gA
  replace eQ:Q'+0=Q+1:=eQ
  replace gQ:0≤Q:=gQ
  replace eC:C'+0=C+0:=eC
  obtain ⟨wl,ww,ws,wq⟩:=W
  cases a with
  | false =>
   have hs:=h2 rfl
   subst hs
   replace eT:T'+0=T+0:=eT
   clear gT h1 h2
   dsimp only at *
   (rcases (by omega:wl=0∨wl=1) with e1 | e1) <;> (rcases (by omega:ws=0∨ws=1) with e2 | e2) <;> subst e1 <;> subst e2 <;> simp[Wd.ok,Wd.next,lcM] at*<;> omega
  | true =>
   obtain ⟨h4,h5⟩:=h1 rfl
   replace eT:T'+1=T+0:=eT
   replace gT:1≤T:=gT
   clear h1 h2
   cases s with
   | false =>
    dsimp only at *
    (rcases (by omega:wl=0∨wl=1) with e1 | e1) <;> (rcases (by omega:ws=0∨ws=1) with e2 | e2) <;> subst e1 <;> subst e2 <;> simp[Wd.ok,Wd.next,lcM] at*<;> omega
   | true =>
    dsimp only at *
    (rcases (by omega:wl=0∨wl=1) with e1 | e1) <;> (rcases (by omega:ws=0∨ws=1) with e2 | e2) <;> subst e1 <;> subst e2 <;> simp[Wd.ok,Wd.next,lcM] at*<;> omega
 | c2s h =>
  rename_i a s it
  obtain ⟨_,h1,h2,h3⟩:=hl
  replace eH:H'+0=H+0:=eH
  replace gH:0≤H:=gH
  replace eT:T'+a.toNat=T+0:=eT
  replace gT:a.toNat≤T:=gT
  replace eU:U'+0=U+0:=eU
  replace gU:0≤U:=gU
  replace eV:V'+0=V+0:=eV
  replace gV:0≤V:=gV
  replace eX:X'+0=X+0:=eX
  replace gX:0≤X:=gX
  replace eA:A'+0=A+0:=eA
  replace gA:0≤A:=gA
  replace eQ:Q'+0=Q+1:=eQ
  replace gQ:0≤Q:=gQ
  replace eC:C'+0=C+0:=eC
  obtain ⟨wl,ww,ws,wq⟩:=W
  cases a with
  | false =>
   have hs:=h2 rfl
   subst hs
   replace eT:T'+0=T+0:=eT
   clear gT h1 h2
   dsimp only at *
   (rcases (by omega:wl=0∨wl=1) with e1 | e1) <;> (rcases (by omega:ws=0∨ws=1) with e2 | e2) <;> subst e1 <;> subst e2 <;> simp[Wd.ok,Wd.next,lcM] at*<;> omega
  | true =>
   obtain ⟨h4,h5⟩:=h1 rfl
   replace eT:T'+1=T+0:=eT
   replace gT:1≤T:=gT
   clear h1 h2
   cases s with
   | false =>
    dsimp only at *
    (rcases (by omega:wl=0∨wl=1) with e1 | e1) <;> (rcases (by omega:ws=0∨ws=1) with e2 | e2) <;> subst e1 <;> subst e2 <;> simp[Wd.ok,Wd.next,lcM] at*<;> omega
   | true =>
    dsimp only at *
    (rcases (by omega:wl=0∨wl=1) with e1 | e1) <;> (rcases (by omega:ws=0∨ws=1) with e2 | e2) <;> subst e1 <;> subst e2 <;> simp[Wd.ok,Wd.next,lcM] at*<;> omega
 | c2m h =>
  rename_i a s it
  clear h
  replace eH:H'+0=H+0:=eH
  replace gH:0≤H:=gH
  replace eT:T'+a.toNat=T+a.toNat:=eT
  replace gT:a.toNat≤T:=gT
  replace eU:U'+0=U+0:=eU
  replace gU:0≤U:=gU
  replace eV:V'+0=V+0:=eV
  replace gV:0≤V:=gV
  replace eX:X'+0=X+0:=eX
  replace gX:0≤X:=gX
  replace eA:A'+0=A+0:=eA
  replace gA:0≤A:=gA
  replace eQ:Q'+0=Q+0:=eQ
  replace gQ:0≤Q:=gQ
  replace eC:C'+0=C+0:=eC
  obtain ⟨wl,ww,ws,wq⟩:=W
  refine ⟨⟨?_,?_,?_⟩,⟨hl.2.2.1,hl.2.2.2⟩,?_,?_,?_,?_⟩
  all_goals (try dsimp only at *)
  all_goals omega
 | r3 =>
  rename_i a s it
  have hlc:lcM (.head W a s it):=lD ⟨k1,k2,k3⟩ (fun e=>by subst e;have gT':1≤T:=gT;omega) hl.1 hl.2
  rw[iC] at eH
  replace eH:H'+0=H+0:=eH
  replace gH:0≤H:=gH
  rw[jV] at eT
  replace eT:T'+a.toNat=T+a.toNat:=eT
  replace gT:a.toNat≤T:=gT
  rw[pg] at eU
  replace eU:U'+0=U+0:=eU
  replace gU:0≤U:=gU
  rw[pE] at eV
  replace eV:V'+0=V+0:=eV
  replace gV:0≤V:=gV
  rw[oz] at eX
  replace eX:X'+0=X+0:=eX
  replace gX:0≤X:=gX
  rw[pJ] at eA
  replace eA:A'+0=A+0:=eA
  replace gA:0≤A:=gA
  rw[oh] at eQ
  replace eQ:Q'+0=Q+0:=eQ
  replace gQ:0≤Q:=gQ
  rw[oL] at eC
  replace eC:C'+0=C+0:=eC
  refine ⟨⟨?_,?_,?_⟩,hlc,?_,?_,?_,?_⟩
  all_goals (try dsimp only at *)
  all_goals omega
 | t1 =>
  replace eH:H'+0=H+0:=eH
  replace gH:0≤H:=gH
  replace eT:T'+0=T+0:=eT
  replace gT:0≤T:=gT
  replace eU:U'+0=U+0:=eU
  replace gU:0≤U:=gU
  replace eV:V'+0=V+0:=eV
  replace gV:0≤V:=gV
  replace eX:X'+0=X+0:=eX
  replace gX:0≤X:=gX
  replace eA:A'+0=A+0:=eA
  replace gA:0≤A:=gA
  replace eQ:Q'+1=Q+1:=eQ
  replace gQ:1≤Q:=gQ
  replace eC:C'+0=C+0:=eC
  obtain ⟨wl,ww,ws,wq⟩:=W
  refine ⟨⟨?_,?_,?_⟩,trivial,?_,?_,?_,?_⟩
  all_goals (try dsimp only at *)
  all_goals omega
 | s1t =>
  replace eH:H'+0=H+0:=eH
  replace gH:0≤H:=gH
  replace eT:T'+0=T+0:=eT
  replace gT:0≤T:=gT
  replace eU:U'+0=U+0:=eU
  replace gU:0≤U:=gU
  replace eV:V'+0=V+1:=eV
  replace gV:0≤V:=gV
  replace eX:X'+0=X+0:=eX
  replace gX:0≤X:=gX
  replace eA:A'+0=A+0:=eA
  replace gA:0≤A:=gA
  replace eQ:Q'+1=Q+0:=eQ
  replace gQ:1≤Q:=gQ
  replace eC:C'+0=C+0:=eC
  obtain ⟨wl,ww,ws,wq⟩:=W
  refine ⟨⟨?_,?_,?_⟩,trivial,?_,?_,?_,?_⟩
  all_goals (try dsimp only at *)
  all_goals omega
 | s1r =>
  replace eH:H'+0=H+0:=eH
  replace gH:0≤H:=gH
  replace eT:T'+0=T+0:=eT
  replace gT:0≤T:=gT
  replace eU:U'+0=U+0:=eU
  replace gU:0≤U:=gU
  replace eV:V'+0=V+1:=eV
  replace gV:0≤V:=gV
  replace eX:X'+0=X+0:=eX
  replace gX:0≤X:=gX
  replace eA:A'+0=A+0:=eA
  replace gA:0≤A:=gA
  replace eQ:Q'+1=Q+0:=eQ
  replace gQ:1≤Q:=gQ
  replace eC:C'+0=C+0:=eC
  obtain ⟨wl,ww,ws,wq⟩:=W
  refine ⟨⟨?_,?_,?_⟩,trivial,?_,?_,?_,?_⟩
  all_goals (try dsimp only at *)
  all_goals omega
 | t2 =>
  replace eH:H'+0=H+0:=eH
  replace gH:0≤H:=gH
  replace eT:T'+0=T+0:=eT
  replace gT:0≤T:=gT
  replace eU:U'+0=U+0:=eU
  replace gU:0≤U:=gU
  replace eV:V'+1=V+1:=eV
  replace gV:1≤V:=gV
  replace eX:X'+0=X+0:=eX
  replace gX:0≤X:=gX
  replace eA:A'+0=A+0:=eA
  replace gA:0≤A:=gA
  replace eQ:Q'+0=Q+0:=eQ
  replace gQ:0≤Q:=gQ
  replace eC:C'+0=C+0:=eC
  obtain ⟨wl,ww,ws,wq⟩:=W
  refine ⟨⟨?_,?_,?_⟩,trivial,?_,?_,?_,?_⟩
  all_goals (try dsimp only at *)
  all_goals omega
 | r2n h =>
  rename_i s
  have hlc:lcM (.head W true s 0):=lD ⟨k1,k2,k3⟩ (fun _=>by have gV':1≤V:=gV;omega) (fun e=>by cases e) (by omega)
  rw[iC] at eH
  replace eH:H'+0=H+0:=eH
  replace gH:0≤H:=gH
  rw[jV] at eT
  replace eT:T'+0=T+1:=eT
  replace gT:0≤T:=gT
  rw[pg] at eU
  replace eU:U'+0=U+0:=eU
  replace gU:0≤U:=gU
  rw[pE] at eV
  replace eV:V'+1=V+0:=eV
  replace gV:1≤V:=gV
  rw[oz] at eX
  replace eX:X'+0=X+0:=eX
  replace gX:0≤X:=gX
  rw[pJ] at eA
  replace eA:A'+0=A+0:=eA
  replace gA:0≤A:=gA
  rw[oh] at eQ
  replace eQ:Q'+0=Q+0:=eQ
  replace gQ:0≤Q:=gQ
  rw[oL] at eC
  replace eC:C'+0=C+0:=eC
  refine ⟨⟨?_,?_,?_⟩,hlc,?_,?_,?_,?_⟩
  all_goals (try dsimp only at *)
  all_goals omega
 | r2h h =>
  replace eH:H'+0=H+0:=eH
  replace gH:0≤H:=gH
  replace eT:T'+0=T+0:=eT
  replace gT:0≤T:=gT
  replace eU:U'+0=U+0:=eU
  replace gU:0≤U:=gU
  replace eV:V'+1=V+0:=eV
  replace gV:1≤V:=gV
  replace eX:X'+0=X+0:=eX
  replace gX:0≤X:=gX
  replace eA:A'+0=A+1:=eA
  replace gA:0≤A:=gA
  replace eQ:Q'+0=Q+0:=eQ
  replace gQ:0≤Q:=gQ
  replace eC:C'+0=C+0:=eC
  refine ⟨⟨?_,?_,?_⟩,⟨k1,k2,k3⟩,?_,?_,?_,?_⟩
  all_goals (try dsimp only at *)
  all_goals omega
 | a1e h =>
  clear h
  replace eH:H'+0=H+1:=eH
  replace gH:0≤H:=gH
  replace eT:T'+0=T+0:=eT
  replace gT:0≤T:=gT
  replace eU:U'+0=U+0:=eU
  replace gU:0≤U:=gU
  replace eV:V'+0=V+0:=eV
  replace gV:0≤V:=gV
  replace eX:X'+0=X+0:=eX
  replace gX:0≤X:=gX
  replace eA:A'+1=A+0:=eA
  replace gA:1≤A:=gA
  replace eQ:Q'+0=Q+0:=eQ
  replace gQ:0≤Q:=gQ
  replace eC:C'+0=C+0:=eC
  obtain ⟨wl,ww,ws,wq⟩:=W
  refine ⟨⟨?_,?_,?_⟩,trivial,?_,?_,?_,?_⟩
  all_goals (try dsimp only at *)
  all_goals omega
 | a1k h =>
  clear h
  replace eH:H'+0=H+1:=eH
  replace gH:0≤H:=gH
  replace eT:T'+0=T+0:=eT
  replace gT:0≤T:=gT
  replace eU:U'+0=U+0:=eU
  replace gU:0≤U:=gU
  replace eV:V'+0=V+0:=eV
  replace gV:0≤V:=gV
  replace eX:X'+0=X+0:=eX
  replace gX:0≤X:=gX
  replace eA:A'+1=A+0:=eA
  replace gA:1≤A:=gA
  replace eQ:Q'+0=Q+0:=eQ
  replace gQ:0≤Q:=gQ
  replace eC:C'+0=C+0:=eC
  obtain ⟨wl,ww,ws,wq⟩:=W
  refine ⟨⟨?_,?_,?_⟩,trivial,?_,?_,?_,?_⟩
  all_goals (try dsimp only at *)
  all_goals omega
 | le =>
  replace eH:H'+1=H+1:=eH
  replace gH:1≤H:=gH
  replace eT:T'+0=T+0:=eT
  replace gT:0≤T:=gT
  replace eU:U'+0=U+0:=eU
  replace gU:0≤U:=gU
  replace eV:V'+0=V+0:=eV
  replace gV:0≤V:=gV
  replace eX:X'+0=X+0:=eX
  replace gX:0≤X:=gX
  replace eA:A'+0=A+0:=eA
  replace gA:0≤A:=gA
  replace eQ:Q'+0=Q+0:=eQ
  replace gQ:0≤Q:=gQ
  replace eC:C'+0=C+0:=eC
  obtain ⟨wl,ww,ws,wq⟩:=W
  refine ⟨⟨?_,?_,?_⟩,trivial,?_,?_,?_,?_⟩
  all_goals (try dsimp only at *)
  all_goals omega
 | la =>
  replace eH:H'+1=H+1:=eH
  replace gH:1≤H:=gH
  replace eT:T'+0=T+0:=eT
  replace gT:0≤T:=gT
  replace eU:U'+0=U+0:=eU
  replace gU:0≤U:=gU
  replace eV:V'+0=V+0:=eV
  replace gV:0≤V:=gV
  replace eX:X'+0=X+0:=eX
  replace gX:0≤X:=gX
  replace eA:A'+0=A+0:=eA
  replace gA:0≤A:=gA
  replace eQ:Q'+0=Q+0:=eQ
  replace gQ:0≤Q:=gQ
  replace eC:C'+0=C+0:=eC
  obtain ⟨wl,ww,ws,wq⟩:=W
  refine ⟨⟨?_,?_,?_⟩,trivial,?_,?_,?_,?_⟩
  all_goals (try dsimp only at *)
  all_goals omega
 | cr =>
  replace eH:H'+1=H+1:=eH
  replace gH:1≤H:=gH
  replace eT:T'+0=T+0:=eT
  replace gT:0≤T:=gT
  replace eU:U'+0=U+0:=eU
  replace gU:0≤U:=gU
  replace eV:V'+0=V+0:=eV
  replace gV:0≤V:=gV
  replace eX:X'+0=X+0:=eX
  replace gX:0≤X:=gX
  replace eA:A'+0=A+0:=eA
  replace gA:0≤A:=gA
  replace eQ:Q'+0=Q+0:=eQ
  replace gQ:0≤Q:=gQ
  replace eC:C'+0=C+0:=eC
  obtain ⟨wl,ww,ws,wq⟩:=W
  refine ⟨⟨?_,?_,?_⟩,trivial,?_,?_,?_,?_⟩
  all_goals (try dsimp only at *)
  all_goals omega
 | ud =>
  replace eH:H'+1=H+1:=eH
  replace gH:1≤H:=gH
  replace eT:T'+0=T+0:=eT
  replace gT:0≤T:=gT
  replace eU:U'+0=U+0:=eU
  replace gU:0≤U:=gU
  replace eV:V'+0=V+0:=eV
  replace gV:0≤V:=gV
  replace eX:X'+0=X+0:=eX
  replace gX:0≤X:=gX
  replace eA:A'+0=A+0:=eA
  replace gA:0≤A:=gA
  replace eQ:Q'+0=Q+0:=eQ
  replace gQ:0≤Q:=gQ
  replace eC:C'+0=C+0:=eC
  obtain ⟨wl,ww,ws,wq⟩:=W
  refine ⟨⟨?_,?_,?_⟩,trivial,?_,?_,?_,?_⟩
  all_goals (try dsimp only at *)
  all_goals omega
 | u0x h =>
  replace eH:H'+1=H+0:=eH
  replace gH:1≤H:=gH
  replace eT:T'+0=T+0:=eT
  replace gT:0≤T:=gT
  replace eU:U'+0=U+0:=eU
  replace gU:0≤U:=gU
  replace eV:V'+0=V+0:=eV
  replace gV:0≤V:=gV
  replace eX:X'+0=X+1:=eX
  replace gX:0≤X:=gX
  replace eA:A'+0=A+0:=eA
  replace gA:0≤A:=gA
  replace eQ:Q'+0=Q+0:=eQ
  replace gQ:0≤Q:=gQ
  replace eC:C'+0=C+0:=eC
  obtain ⟨wl,ww,ws,wq⟩:=W
  refine ⟨⟨?_,?_,?_⟩,trivial,?_,?_,?_,?_⟩
  all_goals (try dsimp only at *)
  all_goals omega
 | u0e h h2 =>
  replace eH:H'+1=H+0:=eH
  replace gH:1≤H:=gH
  replace eT:T'+0=T+0:=eT
  replace gT:0≤T:=gT
  replace eU:U'+0=U+0:=eU
  replace gU:0≤U:=gU
  replace eV:V'+0=V+0:=eV
  replace gV:0≤V:=gV
  replace eX:X'+0=X+0:=eX
  replace gX:0≤X:=gX
  replace eA:A'+0=A+0:=eA
  replace gA:0≤A:=gA
  replace eQ:Q'+0=Q+0:=eQ
  replace gQ:0≤Q:=gQ
  replace eC:C'+0=C+0:=eC
  obtain ⟨wl,ww,ws,wq⟩:=W
  refine ⟨⟨?_,?_,?_⟩,trivial,?_,?_,?_,?_⟩
  all_goals (try dsimp only at *)
  all_goals omega
 | u0c h h2 h3 =>
  have hlc:lcM (.uc { W with l:=0 }):=⟨⟨Nat.zero_le _,k2,k3⟩,rfl,h3,h,h2⟩
  replace eH:H'+1=H+0:=eH
  replace gH:1≤H:=gH
  replace eT:T'+0=T+0:=eT
  replace gT:0≤T:=gT
  replace eU:U'+0=U+0:=eU
  replace gU:0≤U:=gU
  replace eV:V'+0=V+0:=eV
  replace gV:0≤V:=gV
  replace eX:X'+0=X+0:=eX
  replace gX:0≤X:=gX
  replace eA:A'+0=A+0:=eA
  replace gA:0≤A:=gA
  replace eQ:Q'+0=Q+0:=eQ
  replace gQ:0≤Q:=gQ
  replace eC:C'+0=C+1:=eC
  refine ⟨⟨?_,?_,?_⟩,hlc,?_,?_,?_,?_⟩
  all_goals (try dsimp only at *)
  all_goals omega
 | uch =>
  obtain ⟨o1,o2,o3,o4,o5⟩:=hl
  replace eH:H'+0=H+0:=eH
  replace gH:0≤H:=gH
  replace eT:T'+0=T+0:=eT
  replace gT:0≤T:=gT
  replace eU:U'+0=U+1:=eU
  replace gU:0≤U:=gU
  replace eV:V'+0=V+0:=eV
  replace gV:0≤V:=gV
  replace eX:X'+0=X+0:=eX
  replace gX:0≤X:=gX
  replace eA:A'+0=A+0:=eA
  replace gA:0≤A:=gA
  replace eQ:Q'+0=Q+0:=eQ
  replace gQ:0≤Q:=gQ
  replace eC:C'+1=C+0:=eC
  obtain ⟨wl,ww,ws,wq⟩:=W
  refine ⟨⟨?_,?_,?_⟩,trivial,?_,?_,?_,?_⟩
  all_goals (try dsimp only at *)
  all_goals omega
 | ucm h =>
  clear h
  replace eH:H'+0=H+0:=eH
  replace gH:0≤H:=gH
  replace eT:T'+0=T+0:=eT
  replace gT:0≤T:=gT
  replace eU:U'+0=U+0:=eU
  replace gU:0≤U:=gU
  replace eV:V'+0=V+0:=eV
  replace gV:0≤V:=gV
  replace eX:X'+0=X+0:=eX
  replace gX:0≤X:=gX
  replace eA:A'+0=A+0:=eA
  replace gA:0≤A:=gA
  replace eQ:Q'+0=Q+0:=eQ
  replace gQ:0≤Q:=gQ
  replace eC:C'+1=C+1:=eC
  obtain ⟨wl,ww,ws,wq⟩:=W
  refine ⟨⟨?_,?_,?_⟩,trivial,?_,?_,?_,?_⟩
  all_goals (try dsimp only at *)
  all_goals omega
 | u2e h =>
  replace eH:H'+0=H+0:=eH
  replace gH:0≤H:=gH
  replace eT:T'+0=T+0:=eT
  replace gT:0≤T:=gT
  replace eU:U'+0=U+0:=eU
  replace gU:0≤U:=gU
  replace eV:V'+0=V+0:=eV
  replace gV:0≤V:=gV
  replace eX:X'+0=X+0:=eX
  replace gX:0≤X:=gX
  replace eA:A'+0=A+0:=eA
  replace gA:0≤A:=gA
  replace eQ:Q'+0=Q+0:=eQ
  replace gQ:0≤Q:=gQ
  replace eC:C'+1=C+0:=eC
  obtain ⟨wl,ww,ws,wq⟩:=W
  refine ⟨⟨?_,?_,?_⟩,trivial,?_,?_,?_,?_⟩
  all_goals (try dsimp only at *)
  all_goals omega
 | u2c h =>
  replace eH:H'+0=H+0:=eH
  replace gH:0≤H:=gH
  replace eT:T'+0=T+0:=eT
  replace gT:0≤T:=gT
  replace eU:U'+0=U+0:=eU
  replace gU:0≤U:=gU
  replace eV:V'+0=V+0:=eV
  replace gV:0≤V:=gV
  replace eX:X'+0=X+0:=eX
  replace gX:0≤X:=gX
  replace eA:A'+0=A+0:=eA
  replace gA:0≤A:=gA
  replace eQ:Q'+0=Q+0:=eQ
  replace gQ:0≤Q:=gQ
  replace eC:C'+1=C+1:=eC
  refine ⟨⟨?_,?_,?_⟩,⟨⟨k1,k2,k3⟩,h.2.1,h.2.2.1,h.2.2.2,h.1⟩,?_,?_,?_,?_⟩
  all_goals (try dsimp only at *)
  all_goals omega
 | us =>
  replace eH:H'+0=H+0:=eH
  replace gH:0≤H:=gH
  replace eT:T'+0=T+0:=eT
  replace gT:0≤T:=gT
  replace eU:U'+1=U+0:=eU
  replace gU:1≤U:=gU
  replace eV:V'+0=V+0:=eV
  replace gV:0≤V:=gV
  replace eX:X'+0=X+0:=eX
  replace gX:0≤X:=gX
  replace eA:A'+0=A+0:=eA
  replace gA:0≤A:=gA
  replace eQ:Q'+0=Q+0:=eQ
  replace gQ:0≤Q:=gQ
  replace eC:C'+0=C+0:=eC
  obtain ⟨wl,ww,ws,wq⟩:=W
  refine ⟨⟨?_,?_,?_⟩,trivial,?_,?_,?_,?_⟩
  all_goals (try dsimp only at *)
  all_goals omega
 | ux =>
  replace eH:H'+0=H+0:=eH
  replace gH:0≤H:=gH
  replace eT:T'+0=T+0:=eT
  replace gT:0≤T:=gT
  replace eU:U'+0=U+0:=eU
  replace gU:0≤U:=gU
  replace eV:V'+0=V+0:=eV
  replace gV:0≤V:=gV
  replace eX:X'+1=X+0:=eX
  replace gX:1≤X:=gX
  replace eA:A'+0=A+0:=eA
  replace gA:0≤A:=gA
  replace eQ:Q'+0=Q+0:=eQ
  replace gQ:0≤Q:=gQ
  replace eC:C'+0=C+0:=eC
  obtain ⟨wl,ww,ws,wq⟩:=W
  refine ⟨⟨?_,?_,?_⟩,trivial,?_,?_,?_,?_⟩
  all_goals (try dsimp only at *)
  all_goals omega
 | ue =>
  replace eH:H'+0=H+0:=eH
  replace gH:0≤H:=gH
  replace eT:T'+0=T+0:=eT
  replace gT:0≤T:=gT
  replace eU:U'+0=U+0:=eU
  replace gU:0≤U:=gU
  replace eV:V'+0=V+0:=eV
  replace gV:0≤V:=gV
  replace eX:X'+0=X+0:=eX
  replace gX:0≤X:=gX
  replace eA:A'+0=A+0:=eA
  replace gA:0≤A:=gA
  replace eQ:Q'+0=Q+0:=eQ
  replace gQ:0≤Q:=gQ
  replace eC:C'+0=C+0:=eC
  obtain ⟨wl,ww,ws,wq⟩:=W
  refine ⟨⟨?_,?_,?_⟩,trivial,?_,?_,?_,?_⟩
  all_goals (try dsimp only at *)
  all_goals omega
 | ent =>
  replace eH:H'+0=H+0:=eH
  replace gH:0≤H:=gH
  replace eT:T'+0=T+0:=eT
  replace gT:0≤T:=gT
  replace eU:U'+0=U+0:=eU
  replace gU:0≤U:=gU
  replace eV:V'+0=V+0:=eV
  replace gV:0≤V:=gV
  replace eX:X'+0=X+0:=eX
  replace gX:0≤X:=gX
  replace eA:A'+0=A+0:=eA
  replace gA:0≤A:=gA
  replace eQ:Q'+0=Q+0:=eQ
  replace gQ:0≤Q:=gQ
  replace eC:C'+0=C+0:=eC
  obtain ⟨wl,ww,ws,wq⟩:=W
  refine ⟨⟨?_,?_,?_⟩,trivial,?_,?_,?_,?_⟩
  all_goals (try dsimp only at *)
  all_goals omega
def p1M:Mx→Nat
 | .no | .ue=>0
 | .ld | .l0 | .r0 | .c1 _ _=>6
 | .sq _ a _ _ | .r1 a _ _ | .c2 _ a _ _ | .r3 a _ _=>if a=true then 5 else 6
 | .t1 _ | .s1 _=>4
 | .t2 _ | .r2 _ | .a1 _ _=>5
 | .le | .la | .cr | .ud | .u0=>3
 | .uc _ | .u2=>2
 | .us | .ux=>1
def p2M (W:Wd):Mx→Nat
 | .no=>0
 | .ld=>13
 | .l0=>12
 | .r0=>11
 | .sq o _ _ it=>if W=o then 10-2*it else 13-2*it
 | .c1 o it=>if W=o then 1 else 10-2*it
 | .r1 _ _ it=>9-2*it
 | .c2 o _ _ it=>if W=o then 1 else 12-2*it
 | .r3 _ _ it=>11-2*it
 | .t1 _=>14
 | .s1 _=>13
 | .t2 _=>12
 | .r2 _=>11
 | .a1 _ _=>1
 | .le=>10
 | .la=>9
 | .cr=>8
 | .ud=>7
 | .u0=>6
 | .uc o=>if W=o then 3 else 5
 | .u2=>4
 | .us | .ux=>2
 | .ue=>1
theorem Dg (W:Wd) (x:Mx):p2M W x≤14:=by cases x <;> simp only[p2M] <;> (try split) <;> omega
theorem lF (o:Wd) (a s:Bool) (it:Nat):p1M (.head o a s it)=if a=true then 5 else 6:=by unfold Mx.head;split <;> rfl
theorem lz (W:Wd) (a s:Bool) {it:Nat} (_:it≤4):p2M W (.head W a s it)≤10-2*it∨p2M W (.head W a s it)≤1:=by
 unfold Mx.head
 split
 ·left;simp only[p2M,if_true];exact Nat.le_refl _
 ·right;simp only[p2M,if_true];exact Nat.le_refl _
theorem Mv.less (h:Mv x W m x' W' m') (hl:lcM x) (hn:x≠.no):p1M x'+m'<p1M x+m∨(p1M x'+m'=p1M x+m∧W'=W∧p2M W x'<p2M W x):=by
 cases h with
 | ent=>exact absurd rfl hn
 | us | ux=>exact .inr ⟨by simp only[p1M];omega,rfl,by simp only[p2M];omega⟩
 | ld | l0m _ | t1 | t2 | le | la | cr | ud | ue=>exact .inr ⟨by simp only[p1M],rfl,by simp only[p2M];omega⟩
 | l0h | a1e _ | a1k _ | u0x _ | u0e _ _ | u0c _ _ _ | uch | u2e _=>exact .inl (by simp only[p1M];omega)
 | c1h=>exact .inl (by simp only[p1M,if_true];omega)
 | r0=>exact .inr ⟨by rw[lF];rfl,rfl,by have:=lz W false false (it:=0) (by omega);show _<11;omega⟩
 | sqn =>
  rename_i o a s it
  have h4:it≤4:=hl.2.2.2.2.2
  exact .inr ⟨rfl,rfl,by simp only[p2M];split <;> omega⟩
 | sqc hi _ _=>exact .inr ⟨rfl,rfl,by simp only[p2M];split <;> omega⟩
 | sqs hi=>exact .inr ⟨rfl,rfl,by simp only[p2M];split <;> omega⟩
 | c1m h =>
  have h4:=hl.2.2.2.2.2
  exact .inr ⟨rfl,rfl,by simp only[p2M,if_neg h];omega⟩
 | r1 =>
  rename_i a s it
  have h4:it<4:=hl.2
  exact .inr ⟨by rw[lF];rfl,rfl,by have:=lz W a s (it:=it+1) (by omega);show _<9-2*it;omega⟩
 | c2l _ _ | c2t _ | c2s _=>exact .inl (by simp only[p1M];split <;> omega)
 | c2m h =>
  have h4:=hl.2.2.2
  exact .inr ⟨rfl,rfl,by simp only[p2M,if_neg h];omega⟩
 | r3 =>
  rename_i a s it
  have h4:it≤4:=hl.2
  exact .inr ⟨by rw[lF];rfl,rfl,by have:=lz W a s (it:=it) h4;show _<11-2*it;omega⟩
 | s1t | s1r=>exact .inr ⟨by simp only[p1M];omega,rfl,by simp only[p2M];omega⟩
 | r2n _=>exact .inr ⟨by rw[lF];rfl,rfl,by have:=lz W true ‹Bool› (it:=0) (by omega);show _<11;omega⟩
 | r2h _=>exact .inr ⟨rfl,rfl,by simp only[p2M];omega⟩
 | ucm h=>exact .inr ⟨rfl,rfl,by simp only[p2M,if_neg h];omega⟩
 | u2c _=>exact .inr ⟨rfl,rfl,by simp only[p2M,if_true];omega⟩
theorem oZ (f:Mx→Nat):∀{n},(∀i,i<n→f (xs i)=0)→sm n f xs=0
 | 0,_=>rfl
 | n+1,h=>by
  show sm n f xs+f (xs n)=0
  rw[oZ f fun i hi=>h i (by omega),h n (by omega)]
theorem MInv.free (h:MInv xs n W m) (hm:m=0) (hi:i<n) {s:Bool} (hx:xs i=.s1 s) (ha:∀j,j<n→xs j=.no∨∃s,xs j=.s1 s):False:=by
 have z:∀f:Mx→Nat,f .no=0→(∀s,f (.s1 s)=0)→sm n f xs=0:=fun f h1 h2=>oZ f fun j hj=>by
  rcases ha j hj with e | ⟨s,e⟩
  ·rw[e,h1]
  ·rw[e,h2]
 have hq:=ep (xs:=xs) qM hi
 rw[hx] at hq
 have hq':1≤sm n qM xs:=hq
 have h1:=h.hd
 rw[z dB rfl fun _=>rfl] at h1
 have:=h.ok.2.2
 rcases (by omega:W.s=0∨W.s=1) with e | e
 ·obtain ⟨k1,k2,k3,k4⟩:=h.s0 e
  rw[z jM rfl fun _=>rfl,z uM rfl fun _=>rfl,z vM rfl fun _=>rfl] at k3
  rw[z uM rfl fun _=>rfl] at k4
  have:=h.lv e h1.symm (by omega) (by omega)
  rw[z cM rfl fun _=>rfl] at this
  omega
 ·obtain ⟨_,_,_,k1,_⟩:=h.s1 e
  rw[z xM rfl fun _=>rfl,z vM rfl fun _=>rfl,z aM rfl fun _=>rfl] at k1
  omega
theorem uh (f:Mx→Nat) (hf:∀x,f x≤1):∀n,sm n f xs≤n
 | 0=>Nat.le_refl _
 | n+1=>Nat.add_le_add (uh f hf n) (hf _)
theorem MInv.few (h:MInv xs n W m):W.q≤3*n∧m≤1:=by
 have h1:=uh (xs:=xs) qM (fun x=>by cases x <;> simp only[qM] <;> omega) n
 have h2:=uh (xs:=xs) vM (fun x=>by cases x <;> simp only[vM] <;> omega) n
 have h3:=uh (xs:=xs) aM (fun x=>by cases x <;> simp only[aM] <;> omega) n
 have:=h.ok
 have h4:=this.2.1
 rcases (by have:=this.2.2;omega:W.s=0∨W.s=1) with e | e
 ·obtain ⟨_,_,k3,k4⟩:=h.s0 e
  omega
 ·obtain ⟨_,_,_,k3,k4⟩:=h.s1 e
  omega
theorem MInv.handed (h:MInv xs n W m) (hi:i<n) (hx:vM (xs i)=1∨aM (xs i)=1) (hs:W.s=1):W.l=0∧W.w=0∧1≤W.q:=by
 have h2:=ep (xs:=xs) vM hi
 have h3:=ep (xs:=xs) aM hi
 obtain ⟨k1,_,_,k3,k4⟩:=h.s1 hs
 omega
theorem MInv.DV (h:MInv xs n W m) (hi:i<n) (hx:vM (xs i)=1) (hs:W.s=0):W.w=1:=by
 have h2:=ep (xs:=xs) vM hi
 have:=h.ok.2.1
 obtain ⟨_,_,k3,_⟩:=h.s0 hs
 omega
theorem MInv.hand (h:MInv xs n W m) (hi:i<n) (hx:aM (xs i)=1):W.s=1:=by
 have h3:=ep (xs:=xs) aM hi
 rcases (by have:=h.ok.2.2;omega:W.s=0∨W.s=1) with e | e
 ·have:=(h.s0 e).2.1
  omega
 ·exact e
theorem MInv.tok (h:MInv xs n W m) (hi:i<n) (hx:jM (xs i)=1):W.s=0∧W.w=1:=by
 have h3:=ep (xs:=xs) jM hi
 rcases (by have:=h.ok.2.2;omega:W.s=0∨W.s=1) with e | e
 ·have:=h.ok.2.1
  obtain ⟨_,_,k3,_⟩:=h.s0 e
  exact ⟨e,by omega⟩
 ·obtain ⟨_,k2,_⟩:=h.s1 e
  omega
theorem MInv.held (h:MInv xs n W m) (hi:i<n) (hx:dB (xs i)=1):W.l=1:=by
 have h3:=ep (xs:=xs) dB hi
 have:=h.hd
 have:=h.ok.1
 omega
theorem MInv.one (h:MInv xs n W m) {j:Nat} (hi:i<n) (hj:j<n) (hx:dB (xs i)=1) (hy:dB (xs j)=1):j=i:=by
 refine Classical.byContradiction fun e=>?_
 have h1:=dM (xs:=xs) (x':=.no) dB hi
 have h2:=ep (xs:=aJ xs i .no) dB hj
 rw[aF _ _ e,hy] at h2
 rw[hx] at h1
 have h3:sm n dB (aJ xs i .no)+1=sm n dB xs+0:=h1
 have:=h.hd
 have:=h.ok.1
 omega
def m3 (B:Nat) (xs:Nat→Mx) (n:Nat) (W:Wd) (m:Nat):Nat:=B*(sm n p1M xs+m)+sm n (p2M W) xs
theorem ya (W:Wd) (xs:Nat→Mx):∀n,sm n (p2M W) xs≤14*n
 | 0=>Nat.le_refl _
 | n+1=>by
  have:=ya W xs n
  have:=Dg W (xs n)
  show sm n (p2M W) xs+p2M W (xs n)≤_
  omega
theorem xE (h:Mv x W m x' W' m') (hi:i<n) (hx:xs i=x) (hl:lcM x) (hn:x≠.no) {B:Nat} (hB:14*n<B):m3 B (aJ xs i x') n W' m'<m3 B xs n W m:=by
 have e1:=dM (xs:=xs) (x':=x') p1M hi
 rw[hx] at e1
 unfold m3
 rcases h.less hl hn with h1 | ⟨h1,rfl,h2⟩
 ·have e2:=ya W' (aJ xs i x') n
  have e3:sm n p1M (aJ xs i x')+m'+1≤sm n p1M xs+m:=by omega
  have e4:=Nat.mul_le_mul_left B e3
  rw[Nat.mul_add,Nat.mul_one] at e4
  omega
 ·have e2:=dM (xs:=xs) (x':=x') (p2M W') hi
  rw[hx] at e2
  have e3:sm n p1M (aJ xs i x')+m'=sm n p1M xs+m:=by omega
  rw[e3]
  omega
end Cs
end Go.Proofs.Ytpdemelchhkfaaa
