/-
  Several texts, joined: DxA, DyA, DyB, DyC, DyD, DyE.
-/
import Derived.Test.YtpdemelchhkfaaaDwM
import Derived.Conc.WgGenN3
import Derived.Conc.WgWords
import Derived.Conc.Pipeline2
import Derived.Laws.BitsLemmas
import Derived.Test.YtpdemelchhkfaaaJn21
import Derived.Conc.MuWords
import Derived.Conc.ClockLaws
/-
  The other pool: the stops of a worker that is done, and of goroutine 0 that waits, said piece by piece.
-/
namespace Go.Proofs.Ytpdemelchhkfaaa.Cs
open Go.Conc
open Go.ConcR (KK WgAt wgBlock stA smA rd wr mk DC0)
theorem goes_weak {P:Program} {main:Bool} {R:World→World→Prop} {D D':World→World→Array Event→Prop} {A B:Goroutine→World→Prop} (hD:∀w w' es,D w w' es→D' w w' es) (hA:∀g w,A g w→B g w):∀{m:Nat} {g:Goroutine} {w:World},Goes P main R D A m g w→Goes P main R D' B m g w
 | 0,_,_,h=>fun w₁ h₁=>hA _ _ (h w₁ h₁)
 | m+1,g,w,h=>by
  rcases h with h | ⟨hs,h⟩
  ·exact .inl fun w₁ h₁=>hA _ _ (h w₁ h₁)
  ·refine .inr ⟨hs,fun w₁ h₁=>?_⟩
   have:=h w₁ h₁
   revert this
   cases stepG P main g w₁ <;> simp only[GStep.goes,imp_self]
   exact fun x=>⟨hD _ _ _ x.1,goes_weak hD hA x.2⟩
theorem goes_trans {P:Program} {main:Bool} {S:World→Prop} {D:World→World→Array Event→Prop} {A B:Goroutine→World→Prop} {n:Nat} (hn:∀g w,A g w→S w→Goes P main (fun _ w=>S w) D B n g w):∀{m:Nat} {g:Goroutine} {w:World},Goes P main (fun _ w=>S w) D A m g w→Goes P main (fun _ w=>S w) D B (m+n) g w:=by
 have stp:∀{g:Goroutine} {w:World},(∀w₁,S w₁→A g w₁)→Goes P main (fun _ w=>S w) D B n g w:=by
  intro g w h
  by_cases he:∃w₁,S w₁
  ·obtain ⟨w₁,h₁⟩:=he
   exact (hn g w₁ (h w₁ h₁) h₁).anyWorld w
  ·exact Goes.stop fun w₁ h₁=>absurd ⟨w₁,h₁⟩ he
 intro m
 induction m with
 | zero=>intro g w h;exact (stp h).mono (by omega)
 | succ m ih =>
  intro g w h
  rcases h with h | ⟨hs,h⟩
  ·exact (stp h).mono (by omega)
  ·rw[show m+1+n=(m+n)+1 by omega]
   refine Goes.step hs fun w₁ h₁=>?_
   have:=h w₁ h₁
   revert this
   cases stepG P main g w₁ <;> simp only[GStep.goes,imp_self]
   exact fun x=>⟨x.1,ih x.2⟩
theorem at_op {P:Program} {main:Bool} {R:World→World→Prop} {D:World→World→Array Event→Prop} {A:Goroutine→World→Prop} {n:Nat} {b:Frame} {a:Act} {ops:Array Oper} {i:Nat} {rest:List Nat} {k:List Item} {cs:List Frame} {w:World}:Goes P main R D A n (G (b.at a (.inRegion ops (i :: rest) :: k)) cs) w=Goes P main R D A n (G (b.at a (.inRegion ops (i :: rest) :: k)) cs) w:=rfl
theorem at_opq {P:Program} {n d:Nat} {b:Frame} {a:Act} {ops:Array Oper} {i:Nat} {rest:List Nat} {k:List Item} {cs:List Frame}:QuitsD P n d (G (b.at a (.inRegion ops (i :: rest) :: k)) cs)=QuitsD P n d (G (b.at a (.inRegion ops (i :: rest) :: k)) cs):=rfl
theorem quitsD_le {P:Program}:∀{n m d:Nat} {g:Goroutine},QuitsD P n d g→n≤m→QuitsD P m d g
 | 0,0,_,_,h,_=>h
 | 0,_+1,_,_,h,_=>.inl h
 | n+1,0,_,_,_,h=>by omega
 | n+1,m+1,_,_,h,hl=>h.elim .inl fun ⟨hs,g',es,hm,hst,hq⟩=>.inr ⟨hs,g',es,hm,hst,quitsD_le hq (by omega)⟩
section
variable (P:Program) (c:Cst) (tW:TypeId)
theorem ok_rely {c:Cst} {tW:TypeId} {w w₁:World} (_:Ok3 c tW w) (r:Ok3 c tW w₁):Ok3 c tW w₁:=r
theorem dq_of0 (w w':World) (es:Array Event) (h:DC0 w w' es):DQ c w w' es:=by
 obtain ⟨rfl,rfl⟩:=h
 exact ⟨rfl,rfl,rfl,rfl,fun e he=>by simp at he⟩
variable {P c tW} in
theorem on_of {main:Bool} {Stp:Goroutine→Prop} {g:Goroutine} (m:Nat) (hs:g.status=.running) (h:∀w,Ok3 c tW w→Goes P main (fun _ w=>Ok3 c tW w) DC0 (fun g _=>g.status=.running∧Stp g) m g w):OnA P c tW main Stp g:=⟨hs,fun w hw=>⟨m,goes_weak (dq_of0 c) (fun _ _ x=>x) (h w hw)⟩⟩
variable {P c tW} in
theorem on3_of {Stp:Goroutine→Prop} {g:Goroutine} (m:Nat) (hs:g.status=.running) (h:∀w,Ok3 c tW w→Goes P false (fun _ w=>Ok3 c tW w) DC0 (fun g _=>g.status=.running∧Stp g) m g w):OnL P c tW Stp g:=⟨hs,fun w hw=>⟨m,goes_weak (fun w w' es x=>⟨dq_of0 c w w' es x,x.2⟩) (fun _ _ x=>x) (h w hw)⟩⟩
variable {P c tW} in
theorem on_trans {main:Bool} {A B:Goroutine→Prop} {g:Goroutine} (n:Nat) (h:OnA P c tW main A g) (hn:∀g,A g→∀w,Ok3 c tW w→WalkA P c tW main B n g w):OnA P c tW main B g :=
 ⟨h.1,fun w hw=>let ⟨m,hm⟩:=h.2 w hw;⟨m+n,goes_trans (fun g w x hw=>hn g x.2 w hw) hm⟩⟩
def xSem (g:Goroutine):Prop:=isG g∧mayWake P g=true∧∃g',(∀w,WgAt tW c.C2 w 0 0→stepG P false g w=.go g' (w.setCell (smA c.C2) (.int .u32 1)) (semEvents (smA c.C2)))∧∃q,QuitsD P q 1 g'
def xZer (g:Goroutine):Prop:=isG g∧∃g',(∀w,WgAt tW c.C2 w 1 0→stepG P false g w=.go g' (w.setCell (stA c.C2) (.int .u64 0)) #[wr (stA c.C2)])∧OnL P c tW (xSem P c tW) g'
def xLod (g:Goroutine):Prop:=isG g∧∃g',(∀w,WgAt tW c.C2 w 1 0→stepG P false g w=.go g' w #[rd (stA c.C2)])∧OnL P c tW (xZer P c tW) g'
def xDec (g:Goroutine):Prop:=isG g∧∀v wt:Nat,wt≤1→v<2147483647→∃g',(∀w,WgAt tW c.C2 w (((v:Int)+1)*KK+wt) 0→stepG P false g w=.go g' (w.setCell (stA c.C2) (.int .u64 ((v:Int)*KK+wt))) #[rd (stA c.C2),wr (stA c.C2)]) ∧
  ((v=0∧wt=1)→OnL P c tW (xLod P c tW) g')∧(¬(v=0∧wt=1)→∃q,QuitsD P q 1 g')
def xDis (g:Goroutine):Prop:=isG g∧∃g',(∀w,Ok3 c tW w→stepG P false g w=.go g' w #[mk .disable])∧OnL P c tW (xDec P c tW) g'
def xRel (g:Goroutine):Prop:=isG g∧∃g',(∀w,Ok3 c tW w→stepG P false g w=.go g' w #[mk (.releaseMerge (stA c.C2))])∧OnL P c tW (xDis P c tW) g'
variable (Jn:Goroutine→Prop)
def xAcq (g:Goroutine):Prop:=isG g∧∃g',(∀w,Ok3 c tW w→stepG P true g w=.go g' w #[mk (.acquire (stA c.C2))])∧OnA P c tW true Jn g'
def xKe (g:Goroutine):Prop:=isG g∧∃g',(∀w,Ok3 c tW w→stepG P true g w=.go g' w #[mk .enable])∧OnA P c tW true (xAcq P c tW Jn) g'
def xW4 (g:Goroutine):Prop:=isG g∧∃g',(∀w,WgAt tW c.C2 w 0 0→stepG P true g w=.go g' w #[rd (stA c.C2)])∧OnA P c tW true (xKe P c tW Jn) g'
def xW3 (g:Goroutine):Prop:=isG g∧g.offers=none∧(∀w st,WgAt tW c.C2 w st 0→stepG P true g w=.go { g with status:=.blocked } w #[])∧∃g',(∀w,WgAt tW c.C2 w 0 1→stepG P true g w=.go g' (w.setCell (smA c.C2) (.int .u32 0)) (semEvents (smA c.C2)))∧OnA P c tW true (xW4 P c tW Jn) g'
def xSai (g:Goroutine):Prop:=isG g∧∃g',(∀w,Ok3 c tW w→stepG P true g w=.go g' w #[mk (.write (smA c.C2))])∧OnA P c tW true (xW3 P c tW Jn) g'
variable (An:Goroutine→Prop)
def xW2 (vs:Nat) (g:Goroutine):Prop:=isG g∧(∃g',(∀w,WgAt tW c.C2 w ((vs:Int)*KK) 0→stepG P true g w=.go g' (w.setCell (stA c.C2) (.int .u64 ((vs:Int)*KK+1))) #[rd (stA c.C2),wr (stA c.C2)])∧OnA P c tW true (xSai P c tW Jn) g') ∧
 ∀v:Nat,v<2147483648→v≠vs→∃g',(∀w,WgAt tW c.C2 w ((v:Int)*KK) 0→stepG P true g w=.go g' w #[rd (stA c.C2)])∧OnA P c tW true An g'
def xW1 (g:Goroutine):Prop:=isG g∧∀v:Nat,v<2147483648→∃g',(∀w,WgAt tW c.C2 w ((v:Int)*KK) 0→stepG P true g w=.go g' w #[rd (stA c.C2)])∧OnA P c tW true (fun g=>if v=0 then xKe P c tW Jn g else xW2 P c tW Jn An v g) g'
def xWtD (g:Goroutine):Prop:=isG g∧∃g',(∀w,Ok3 c tW w→stepG P true g w=.go g' w #[mk .disable])∧OnA P c tW true An g'
end
end Go.Proofs.Ytpdemelchhkfaaa.Cs

/-
  The lock's word, bit by bit: what sync.Mutex's code reads off it and makes of it.
-/
namespace Go.Proofs.Ytpdemelchhkfaaa.Cs
open Go.Conc
theorem low7:∀m:Nat,m<8→m=7 &&& m:=by decide
theorem low_and (q c m:Nat) (hc:c<8) (hm:m<8):(c+8*q) &&& m=c &&& m:=by
 have e:=low7 m hm
 have e7:(7:Nat)=2 ^ 3-1:=by decide
 have e1:(c+8*q) &&& 7=c:=by rw[e7,Nat.and_two_pow_sub_one_eq_mod];omega
 rw[e,←Nat.and_assoc,e1,←e]
theorem low_or (q c m:Nat) (hc:c<8) (hm:m<8):(c+8*q) ||| m=(c ||| m)+8*q:=by
 have h1:∀b,b<8→b+8*q=q <<< 3 ||| b:=by
  intro b hb
  have:=Nat.shiftLeft_add_eq_or_of_lt (i:=3) (b:=b) (by omega) q
  rw[Nat.shiftLeft_eq] at this ⊢
  omega
 have h2:c ||| m<8:=Nat.or_lt_two_pow (n:=3) hc hm
 rw[h1 c hc,h1 _ h2,Nat.or_assoc]
theorem wraps_i32_31 (n:Int) (h₀:0≤n) (h₁:n<2 ^ 31):IntKind.i32.wrap n=n:=by rw[IntKind.wrap_i32];omega
theorem and_i32 (q c m:Nat) (hc:c<8) (hm:m<8) (hq:q≤12001):bits .and .i32 ((c+8*q:Nat):Int) (m:Nat)=((c &&& m:Nat):Int):=by
 rw[(bits_nat .i32 31 (by decide) wraps_i32_31 (c+8*q) m (by omega) (by omega)).1,low_and q c m hc hm]
theorem or_i32 (q c m:Nat) (hc:c<8) (hm:m<8) (hq:q≤12001):bits .or .i32 ((c+8*q:Nat):Int) (m:Nat)=(((c ||| m)+8*q:Nat):Int):=by
 rw[(bits_nat .i32 31 (by decide) wraps_i32_31 (c+8*q) m (by omega) (by omega)).2,low_or q c m hc hm]
theorem andNot_two (n:Nat) (h:n<2147483648) (h2:n &&& 2=2):bits .andNot .i32 (n:Int) 2=((n-2:Nat):Int):=by
 have key:(BitVec.ofInt 32 (n:Int) &&& ~~~ BitVec.ofInt 32 2)+(BitVec.ofInt 32 (n:Int) &&& BitVec.ofInt 32 2)=BitVec.ofInt 32 (n:Int):=by
  rw[BitVec.add_eq_or_of_and_eq_zero]
  ·rw[←BitVec.and_or_distrib_left,BitVec.or_comm,BitVec.or_not_self,BitVec.and_allOnes]
  ·rw[BitVec.and_assoc,←BitVec.and_assoc (~~~ BitVec.ofInt 32 2),BitVec.and_comm (~~~ BitVec.ofInt 32 2) _,BitVec.and_assoc,BitVec.and_comm (~~~ BitVec.ofInt 32 2),BitVec.and_not_self]
   simp
 have hn:(BitVec.ofInt 32 (n:Int)).toNat=n:=by rw[BitVec.ofInt_natCast,BitVec.toNat_ofNat];exact Nat.mod_eq_of_lt (by omega)
 have h22:(BitVec.ofInt 32 (2:Int)).toNat=2:=by decide
 have k2:=congrArg BitVec.toNat key
 rw[BitVec.toNat_add,BitVec.toNat_and (x:=BitVec.ofInt 32 (n:Int)) (y:=BitVec.ofInt 32 2),hn,h22,h2] at k2
 have h3:(BitVec.ofInt 32 (n:Int) &&& ~~~ BitVec.ofInt 32 2).toNat≤n:=by
  rw[BitVec.toNat_and,hn];exact Nat.and_le_left
 have h4:(BitVec.ofInt 32 (n:Int) &&& ~~~ BitVec.ofInt 32 2).toNat=n-2:=by omega
 show IntKind.i32.wrap ((BitVec.ofInt 32 (n:Int) &&& ~~~ BitVec.ofInt 32 2).toNat:Int)=_
 rw[h4]
 exact wraps_i32_31 _ (by omega) (by omega)
def Wd.low (W:Wd):Nat:=W.l+2*W.w+4*W.s
theorem Wd.ok.low {W:Wd} (h:W.ok):W.low<8:=by obtain ⟨h1,h2,h3⟩:=h;unfold Wd.low;omega
theorem Wd.ok.cases {p:Nat→Nat→Nat→Prop} (h:∀l,l≤1→∀w,w≤1→∀s,s≤1→p l w s) {W:Wd} (k:W.ok):p W.l W.w W.s:=h _ k.1 _ k.2.1 _ k.2.2
section
variable {W:Wd} (h:W.ok) (hq:W.q≤12001)
include h hq
theorem and1:bits .and .i32 W.enc 1=(W.l:Int):=by
 have:=and_i32 W.q W.low 1 h.low (by decide) hq
 have k:W.low &&& 1=W.l:=h.cases (p:=fun l w s=>(l+2*w+4*s) &&& 1=l) (by decide)
 rw[k] at this;exact this
theorem and2:bits .and .i32 W.enc 2=((2*W.w:Nat):Int):=by
 have:=and_i32 W.q W.low 2 h.low (by decide) hq
 have k:W.low &&& 2=2*W.w:=h.cases (p:=fun l w s=>(l+2*w+4*s) &&& 2=2*w) (by decide)
 rw[k] at this;exact this
theorem and3:bits .and .i32 W.enc 3=((W.l+2*W.w:Nat):Int):=by
 have:=and_i32 W.q W.low 3 h.low (by decide) hq
 have k:W.low &&& 3=W.l+2*W.w:=h.cases (p:=fun l w s=>(l+2*w+4*s) &&& 3=l+2*w) (by decide)
 rw[k] at this;exact this
theorem and4:bits .and .i32 W.enc 4=((4*W.s:Nat):Int):=by
 have:=and_i32 W.q W.low 4 h.low (by decide) hq
 have k:W.low &&& 4=4*W.s:=h.cases (p:=fun l w s=>(l+2*w+4*s) &&& 4=4*s) (by decide)
 rw[k] at this;exact this
theorem and5:bits .and .i32 W.enc 5=((W.l+4*W.s:Nat):Int):=by
 have:=and_i32 W.q W.low 5 h.low (by decide) hq
 have k:W.low &&& 5=W.l+4*W.s:=h.cases (p:=fun l w s=>(l+2*w+4*s) &&& 5=l+4*s) (by decide)
 rw[k] at this;exact this
theorem and7:bits .and .i32 W.enc 7=((W.l+2*W.w+4*W.s:Nat):Int):=by
 have:=and_i32 W.q W.low 7 h.low (by decide) hq
 have k:W.low &&& 7=W.l+2*W.w+4*W.s:=h.cases (p:=fun l w s=>(l+2*w+4*s) &&& 7=l+2*w+4*s) (by decide)
 rw[k] at this;exact this
theorem or1:bits .or .i32 W.enc 1={ W with l:=1 }.enc:=by
 have:=or_i32 W.q W.low 1 h.low (by decide) hq
 have k:W.low ||| 1=1+2*W.w+4*W.s:=h.cases (p:=fun l w s=>(l+2*w+4*s) ||| 1=1+2*w+4*s) (by decide)
 rw[k] at this;exact this
theorem or2:bits .or .i32 W.enc 2={ W with w:=1 }.enc:=by
 have:=or_i32 W.q W.low 2 h.low (by decide) hq
 have k:W.low ||| 2=W.l+2*1+4*W.s:=h.cases (p:=fun l w s=>(l+2*w+4*s) ||| 2=l+2*1+4*s) (by decide)
 rw[k] at this;exact this
theorem or4:bits .or .i32 W.enc 4={ W with s:=1 }.enc:=by
 have:=or_i32 W.q W.low 4 h.low (by decide) hq
 have k:W.low ||| 4=W.l+2*W.w+4*1:=h.cases (p:=fun l w s=>(l+2*w+4*s) ||| 4=l+2*w+4*1) (by decide)
 rw[k] at this;exact this
theorem not2 (hw:W.w=1):bits .andNot .i32 W.enc 2={ W with w:=0 }.enc:=by
 obtain ⟨l,w,s,q⟩:=W
 obtain ⟨h1,h2,h3⟩:=h
 dsimp only at hw h1 h2 h3 hq
 subst hw
 have k:=low_and q (l+2*1+4*s) 2 (by omega) (by decide)
 have k2:(l+2*1+4*s) &&& 2=2:=by
  obtain rfl | rfl:l=0∨l=1:=by omega
  all_goals (obtain rfl | rfl:s=0∨s=1:=by omega)
  all_goals rfl
 refine (andNot_two (l+2*1+4*s+8*q) (by omega) (by rw[k,k2])).trans ?_
 show ((l+2*1+4*s+8*q-2:Nat):Int)=((l+2*0+4*s+8*q:Nat):Int)
 omega
omit hq in
theorem shr3:W.enc / 8=(W.q:Int):=by
 obtain ⟨h1,h2,h3⟩:=h
 unfold Wd.enc
 omega
theorem plus8 (h12:W.q≤12000):IntKind.i32.wrap (W.enc+8)={ W with q:=W.q+1 }.enc:=by
 obtain ⟨h1,h2,h3⟩:=h
 rw[IntKind.wrap_i32];simp only[Wd.enc];omega
theorem minus8 (h0:W.q≠0):IntKind.i32.wrap (W.enc-8)={ W with q:=W.q-1 }.enc:=by
 obtain ⟨h1,h2,h3⟩:=h
 rw[IntKind.wrap_i32];simp only[Wd.enc];omega
theorem less1 (h1:W.l=1):IntKind.i32.wrap (W.enc+-1)={ W with l:=0 }.enc:=by
 obtain ⟨_,h2,h3⟩:=h
 rw[IntKind.wrap_i32];simp only[Wd.enc];omega
theorem more1 (h1:W.l=0):IntKind.i32.wrap (W.enc+1)={ W with l:=1 }.enc:=by
 obtain ⟨_,h2,h3⟩:=h
 rw[IntKind.wrap_i32];simp only[Wd.enc];omega
theorem less7 (h1:W.l=0) (h0:1≤W.q):IntKind.i32.wrap (W.enc+-7)={ W with l:=1,q:=W.q-1 }.enc:=by
 obtain ⟨_,h2,h3⟩:=h
 rw[IntKind.wrap_i32];simp only[Wd.enc];omega
theorem less11 (h1:W.l=0) (hs:W.s=1) (h0:1≤W.q):IntKind.i32.wrap (W.enc+-11)={ W with l:=1,s:=0,q:=W.q-1 }.enc:=by
 obtain ⟨_,h2,h3⟩:=h
 rw[IntKind.wrap_i32];simp only[Wd.enc];omega
end
theorem enc_inj {V W:Wd} (hv:V.ok) (hw:W.ok) (e:V.enc=W.enc):V=W:=by
 obtain ⟨a,b,d,q⟩:=V
 obtain ⟨a',b',d',q'⟩:=W
 obtain ⟨h1,h2,h3⟩:=hv
 obtain ⟨k1,k2,k3⟩:=hw
 simp only[Wd.enc] at *
 simp only[Wd.mk.injEq]
 omega
end Go.Proofs.Ytpdemelchhkfaaa.Cs

/-
  The stops at a sync.Mutex, said piece by piece: each says what its step does and at which stop, or at which loop's head, what follows comes out.
-/
namespace Go.Proofs.Ytpdemelchhkfaaa.Cs
open Go.Conc
open Go.ConcR (KK WgAt wgBlock stA smA rd wr mk DC0)
open Go.ConcM (OsLater)
section
variable (P:Program) (c:Cst) (tW:TypeId)
def xCl (x:Mx) (K:Mx→Goroutine→Prop) (g:Goroutine):Prop :=
 isG g∧∀w W m,Ok3 c tW w→muC c w W m→safeX x W→W.ok→W.q≤12000→m≤1→(∀s,x=.s1 s→m=1)→∃x' W' m' g' w' es,Mv x W m x' W' m'∧stepG P false g w=.go g' w' es∧MuTo c w w' W' m' ∧
  (∀e ∈ es,(∃o wr,o<2∧e=⟨.cell ⟨c.Fd,o,none⟩,wr,true⟩)∨e=mk .disable∨e=mk .enable)∧deafBehind (deafX x) es=deafX x'∧K x' g'
variable {P c tW} in
theorem xCl.mono {x:Mx} {K K':Mx→Goroutine→Prop} {g:Goroutine} (h:xCl P c tW x K g) (hK:∀x' g',K x' g'→K' x' g'):xCl P c tW x K' g :=
 ⟨h.1,fun w W m a1 a2 a3 a4 a5 a6 a7=>let ⟨x',W',m',g',w',es,b1,b2,b3,b4,b5,b6⟩:=h.2 w W m a1 a2 a3 a4 a5 a6 a7;⟨x',W',m',g',w',es,b1,b2,b3,b4,b5,hK _ _ b6⟩⟩
variable (La:Goroutine→Prop) (Hd:Wd→Bool→Bool→Nat→Goroutine→Prop)
def toHd (x':Mx) (g':Goroutine):Prop:=∃o a s it,x'=Mx.head o a s it∧OnL P c tW (Hd o a s it) g'
def yLe:Goroutine→Prop:=xCl P c tW .le fun x' g'=>x'=.la∧OnL P c tW La g'
def yA1 (o:Wd) (s:Bool):Goroutine→Prop:=xCl P c tW (.a1 o s) fun x' g'=>x'=.le∧OnL P c tW (yLe P c tW La) g'
def yR2 (s:Bool):Goroutine→Prop:=xCl P c tW (.r2 s) fun x' g'=>(∃o s',x'=.a1 o s'∧OnL P c tW (yA1 P c tW La o s') g')∨toHd P c tW Hd x' g'
def yT2 (s:Bool):Goroutine→Prop:=xCl P c tW (.t2 s) fun x' g'=>∃s',x'=.r2 s'∧OnL P c tW (yR2 P c tW La Hd s') g'
def yS1 (s:Bool) (g:Goroutine):Prop:=xCl P c tW (.s1 s) (fun x' g'=>(∃s',x'=.t2 s'∧OnL P c tW (yT2 P c tW La Hd s') g')∨∃s',x'=.r2 s'∧OnL P c tW (yR2 P c tW La Hd s') g') g∧g.offers=none∧∀w W,Ok3 c tW w→muC c w W 0→stepG P false g w=.go { g with status:=.blocked } w #[]
def yT1 (s:Bool):Goroutine→Prop:=xCl P c tW (.t1 s) fun x' g'=>x'=.s1 s∧OnL P c tW (yS1 P c tW La Hd s) g'
def yR3 (a s:Bool) (it:Nat):Goroutine→Prop:=xCl P c tW (.r3 a s it) (toHd P c tW Hd)
def yC2 (o:Wd) (a s:Bool) (it:Nat):Goroutine→Prop:=xCl P c tW (.c2 o a s it) fun x' g'=>(x'=.le∧OnL P c tW (yLe P c tW La) g')∨(x'=.t1 s∧OnL P c tW (yT1 P c tW La Hd s) g')∨(x'=.s1 s∧OnL P c tW (yS1 P c tW La Hd s) g')∨(x'=.r3 a s it∧OnL P c tW (yR3 P c tW Hd a s it) g')
def yR1 (a s:Bool) (it:Nat):Goroutine→Prop:=xCl P c tW (.r1 a s it) (toHd P c tW Hd)
def yC1 (o:Wd) (it:Nat):Goroutine→Prop:=xCl P c tW (.c1 o it) fun x' g'=>∃a,x'=.r1 a false it∧OnL P c tW (yR1 P c tW Hd a false it) g'
def ySq (o:Wd) (a s:Bool) (it:Nat):Goroutine→Prop:=xCl P c tW (.sq o a s it) fun x' g'=>(x'=.c2 o a s it∧OnL P c tW (yC2 P c tW La Hd o a s it) g')∨(x'=.c1 o it∧OnL P c tW (yC1 P c tW Hd o it) g')∨(x'=.r1 a s it∧OnL P c tW (yR1 P c tW Hd a s it) g')
def yR0:Goroutine→Prop:=xCl P c tW .r0 (toHd P c tW Hd)
def yL0:Goroutine→Prop:=xCl P c tW .l0 fun x' g'=>(x'=.le∧OnL P c tW (yLe P c tW La) g')∨(x'=.r0∧OnL P c tW (yR0 P c tW Hd) g')
def yLd:Goroutine→Prop:=xCl P c tW .ld fun x' g'=>x'=.l0∧OnL P c tW (yL0 P c tW La Hd) g'
variable (Ke:Goroutine→Prop) (Hu:Wd→Goroutine→Prop)
def yUe:Goroutine→Prop:=xCl P c tW .ue fun x' g'=>x'=.no∧Ke g'
def yUs (g:Goroutine):Prop:=mayWake P g=true∧xCl P c tW .us (fun x' g'=>x'=.ue∧OnL P c tW (yUe P c tW Ke) g') g
def yUx (g:Goroutine):Prop:=mayWake P g=true∧xCl P c tW .ux (fun x' g'=>x'=.ue∧OnL P c tW (yUe P c tW Ke) g') g
def toHu (x':Mx) (g':Goroutine):Prop:=∃o:Wd,o.ok∧o.q≤12000∧((x'=.ue∧(o.q=0∨o.l=1∨o.w=1∨o.s=1))∨(x'=.uc o∧o.q≠0∧o.l=0∧o.w=0∧o.s=0))∧OnL P c tW (Hu o) g'
def yU2:Goroutine→Prop:=xCl P c tW .u2 (toHu P c tW Hu)
def yUc (o:Wd):Goroutine→Prop:=xCl P c tW (.uc o) fun x' g'=>(x'=.us∧OnL P c tW (yUs P c tW Ke) g')∨(x'=.u2∧OnL P c tW (yU2 P c tW Hu) g')
def yU0:Goroutine→Prop:=xCl P c tW .u0 fun x' g'=>(x'=.ux∧OnL P c tW (yUx P c tW Ke) g')∨(x'=.ue∧OnL P c tW (yUe P c tW Ke) g')∨toHu P c tW Hu x' g'
def yUd:Goroutine→Prop:=xCl P c tW .ud fun x' g'=>x'=.u0∧OnL P c tW (yU0 P c tW Ke Hu) g'
end
theorem MuTo.same {c:Cst} {w:World} {W:Wd} {m:Nat} (h:muC c w W m):MuTo c w w W m :=
 ⟨fun _ _=>rfl,rfl,fun cs e=>⟨cs,e,rfl,fun _ _=>rfl⟩,h,.refl _,rfl⟩
theorem fd_at {c:Cst} {tW:TypeId} {w:World} (hk:Ok3 c tW w):∃cs,w.heap[c.Fd]? = some (.cells cs c.TF (0,0)):=by
 obtain ⟨cs,h,_⟩:=hk.ok.fd
 exact ⟨cs,h⟩
theorem fd_thaw {c:Cst} {tW:TypeId} {w:World} (hk:Ok3 c tW w) (i:Nat):w.frozen? ⟨c.Fd,i,none⟩=false:=by
 obtain ⟨cs,h⟩:=fd_at hk
 simp[World.frozen?,h]
theorem fd_cell {c:Cst} {w:World} {cs:Array Value} (h:w.heap[c.Fd]? = some (.cells cs c.TF (0,0))) (i:Nat):w.cell? ⟨c.Fd,i,none⟩=cs[i]?:=by
 simp[World.cell?,h]
end Go.Proofs.Ytpdemelchhkfaaa.Cs

/-
  sync.Mutex: the functions of the model that its text calls; what a step at the lock's cells leaves; lockSlow's loop head.
-/
namespace Go.Proofs.Ytpdemelchhkfaaa.Cs
open Go.Conc Go.RowKit Go.Conc.Lib Go.ConcR.Gen Go.ConcN.Gen
open Go.ConcR (KK WgAt wgBlock stA smA rd wr mk DC0)
open Go.ConcM (OsLater)
theorem zcas_n : (Try.f88.name == "runtime.NumGoroutine") = false := by kernel_rfl
theorem zcas_b:Try.f88.body.isNone=true:=by kernel_rfl
theorem zcas_x:Extern.findNext Try.f88=none:=by kernel_rfl
theorem zcas_f:Extern.find Try.f88=some (Extern.Atomic.casT (.int .i32)):=by kernel_rfl
theorem zadd_n : (Try.f90.name == "runtime.NumGoroutine") = false := by kernel_rfl
theorem zadd_b:Try.f90.body.isNone=true:=by kernel_rfl
theorem zadd_x:Extern.findNext Try.f90=none:=by kernel_rfl
theorem zadd_f:Extern.find Try.f90=some (Extern.Atomic.update (Op.intArith .add) .i32 true):=by kernel_rfl
theorem zspin_n : (Try.f92.name == "runtime.NumGoroutine") = false := by kernel_rfl
theorem zspin_b:Try.f92.body.isNone=true:=by kernel_rfl
theorem zspin_x:Extern.findNext Try.f92=none:=by kernel_rfl
theorem zspin_f:Extern.find Try.f92=some (Extern.Sync.canSpin):=by kernel_rfl
theorem zdosp_n : (Try.f93.name == "runtime.NumGoroutine") = false := by kernel_rfl
theorem zdosp_b:Try.f93.body.isNone=true:=by kernel_rfl
theorem zdosp_x:Extern.findNext Try.f93=none:=by kernel_rfl
theorem zdosp_f:Extern.find Try.f93=some (fun _=>pure (.tuple #[])):=by kernel_rfl
theorem znano_n : (Try.f95.name == "runtime.NumGoroutine") = false := by kernel_rfl
theorem znano_b:Try.f95.body.isNone=true:=by kernel_rfl
theorem znano_x:Extern.findNext Try.f95=none:=by kernel_rfl
theorem znano_f:Extern.find Try.f95=some (Extern.OsHooks.nano):=by kernel_rfl
theorem zsemA_n : (Try.f96.name == "runtime.NumGoroutine") = false := by kernel_rfl
theorem zsemA_b:Try.f96.body.isNone=true:=by kernel_rfl
theorem zsemA_x:Extern.findNext Try.f96=none:=by kernel_rfl
theorem zsemA_f:Extern.find Try.f96=some (Extern.Sync.semacquire):=by kernel_rfl
theorem zsemR_n : (Try.f98.name == "runtime.NumGoroutine") = false := by kernel_rfl
theorem zsemR_b:Try.f98.body.isNone=true:=by kernel_rfl
theorem zsemR_x:Extern.findNext Try.f98=none:=by kernel_rfl
theorem zsemR_f:Extern.find Try.f98=some (Extern.Sync.semrelease):=by kernel_rfl
theorem znano_q:Try.f95.norace=true:=by kernel_rfl
theorem znm_w : (Try.f79.name == "runtime.NumGoroutine") = false := by kernel_rfl
theorem znm_l : (Try.f86.name == "runtime.NumGoroutine") = false := by kernel_rfl
theorem znm_s : (Try.f89.name == "runtime.NumGoroutine") = false := by kernel_rfl
theorem zq_s:(Try.prog.funcs[(base 89).fn]?).any (·.norace)=true:=by kernel_rfl
section
variable {main:Bool} {b:Frame} {a:Act} {kk:List Item} {cs:List Frame} {w:World} {ops:Array Oper} {i:Nat} {rest:List Nat} {o:Oper}
theorem stepG_loadN {x:Operand} (ho:ops[i]? = some o) (hw:Region.wanted o (yielded ops a.tmps)=true) (hk:b.kind≠.early) (hop:o.op=.load 21 x) {ad:Addr} {v:Int} (hx:a.eval x=.pointer (some ad)) (hc:w.cell? ad=some (.int .i32 v)) (hq:(Try.prog.funcs[b.fn]?).any (·.norace)=true) :
  stepG Try.prog main (G (b.at a (.inRegion ops (i :: rest) :: kk)) cs) w=.go (G (b.at (a.put o.dst (.int .i32 v)) (.inRegion ops rest :: kk)) cs) w #[]:=by
 have hr:(execOp a.eval o).run Try.prog w=.ok (.value (.int .i32 v)) w:=by
  unfold execOp
  simp only[hop,hx]
  simp[go_sem,hc]
 have he:(execOp a.eval o).events Try.prog w #[]=#[⟨.cell ad,false,false⟩]:=by
  unfold execOp
  simp only[hop,hx]
  simp[go_sem,hc]
 rw[stepG_value ho hw hk hr]
 unfold listed
 rw[he,seen_def,hq]
 simp[seenStep]
end
section
variable {c:Cst} {tW:TypeId} {w:World} {W:Wd} {m:Nat}
theorem MuTo.st (hk:Ok3 c tW w) (h2:2≤c.K) (h:muC c w W m) (W':Wd):MuTo c w (w.setCell ⟨c.Fd,0,none⟩ (.int .i32 W'.enc)) W' m:=by
 obtain ⟨cs,e,es⟩:=hk.ok.fd
 have hm:=h.2
 rw[fd_cell e] at hm
 have e':(w.setCell ⟨c.Fd,0,none⟩ (.int .i32 W'.enc)).heap[c.Fd]? = some (.cells (cs.setIfInBounds 0 (.int .i32 W'.enc)) c.TF (0,0)):=by
  unfold World.setCell
  simp only[Array.getElem?_modify,e]
  rfl
 refine ⟨fun b hb=>heap_setCell_other w _ b _ (by exact hb),World.size_setCell w _ _,fun cs1 e1=>?_,⟨?_,?_⟩,.refl _,rfl⟩
 ·rw[e] at e1
  cases e1
  exact ⟨_,e',by simp,fun i hi=>by rw[Array.getElem?_setIfInBounds_ne (by omega)]⟩
 ·rw[fd_cell e']
  rw[Array.getElem?_setIfInBounds_self,if_pos (by omega)]
 ·rw[fd_cell e']
  rw[Array.getElem?_setIfInBounds_ne (by omega)]
  exact hm
theorem MuTo.sm (hk:Ok3 c tW w) (h2:2≤c.K) (h:muC c w W m) (m':Nat):MuTo c w (w.setCell ⟨c.Fd,1,none⟩ (.int .u32 (m':Nat))) W m':=by
 obtain ⟨cs,e,es⟩:=hk.ok.fd
 have hm:=h.1
 rw[fd_cell e] at hm
 have e':(w.setCell ⟨c.Fd,1,none⟩ (.int .u32 (m':Nat))).heap[c.Fd]? = some (.cells (cs.setIfInBounds 1 (.int .u32 (m':Nat))) c.TF (0,0)):=by
  unfold World.setCell
  simp only[Array.getElem?_modify,e]
  rfl
 refine ⟨fun b hb=>heap_setCell_other w _ b _ (by exact hb),World.size_setCell w _ _,fun cs1 e1=>?_,⟨?_,?_⟩,.refl _,rfl⟩
 ·rw[e] at e1
  cases e1
  exact ⟨_,e',by simp,fun i hi=>by rw[Array.getElem?_setIfInBounds_ne (by omega)]⟩
 ·rw[fd_cell e']
  rw[Array.getElem?_setIfInBounds_ne (by omega)]
  exact hm
 ·rw[fd_cell e']
  rw[Array.getElem?_setIfInBounds_self,if_pos (by omega)]
theorem MuTo.later (h:muC c w W m):MuTo c w w.later W m:=⟨fun _ _=>rfl,rfl,fun cs e=>⟨cs,e,rfl,fun _ _=>rfl⟩,h,⟨_,rfl⟩,rfl⟩
theorem MuTo.asked (h:muC c w W m):MuTo c w w.asked W m:=⟨fun _ _=>rfl,rfl,fun cs e=>⟨cs,e,rfl,fun _ _=>rfl⟩,h,.refl _,rfl⟩
theorem deaf_head (o:Wd) (a s:Bool) (it:Nat):deafX (.head o a s it)=1:=by unfold Mx.head;split <;> rfl
end
noncomputable def kLoop:Code:=match Try.f89.body.getD .skip with | .seq _ (.seq _ (.seq _ (.seq _ (.seq _ (.seq (.block _ (.loop c)) _)))))=>c | _=>.skip
noncomputable def kRest:Code:=match Try.f89.body.getD .skip with | .seq _ (.seq _ (.seq _ (.seq _ (.seq _ (.seq _ c)))))=>c | _=>.skip
def hdOk (o:Wd) (a s:Bool) (it:Nat):Prop:=o.ok∧o.q≤12000∧(a=true→o.w=1∧o.s=0)∧(a=false→s=false)∧it≤4
section
variable (c:Cst) (b₁:Frame) (a₁:Act) (ops₁:Array Oper) (i₁:Nat) (rest₁:List Nat) (k₁:List Item) (cs₁:List Frame)
def kHd (o:Wd) (a s:Bool) (it:Nat) (g:Goroutine):Prop:=hdOk o a s it∧∃(ws:Int) (v:Nat→Value),g=G ((base 89).at ⟨#[.pointer (some ⟨c.Fd,0,none⟩),v 1,.int .i64 ws,.bool s,.bool a,.int .i64 (it:Nat),.int .i32 o.enc,v 7,v 8,v 9,v 10,v 11,v 12,v 13,v 14,v 15,v 16,v 17,v 18,v 19,v 20,v 21,v 22,v 23,v 24,v 25,v 26,v 27,v 28,v 29,v 30,v 31,v 32,v 33,v 34,v 35,v 36,v 37,v 38,v 39,v 40,v 41,v 42,v 43,v 44,v 45,v 46,v 47,v 48,v 49,v 50,v 51,v 52,v 53,v 54,v 55,v 56,v 57,v 58,v 59,v 60,v 61,v 62,v 63,v 64,v 65,v 66,v 67,v 68,v 69,v 70,v 71,v 72,v 73,v 74,v 75,v 76,v 77,v 78,v 79,v 80,v 81,v 82,v 83,v 84,v 85,v 86,v 87,v 88,v 89,v 90,v 91,v 92,v 93,v 94,v 95,v 96,v 97,v 98,v 99,v 100,v 101,v 102,v 103,v 104,v 105,v 106,v 107,v 108,v 109,v 110,v 111,v 112,v 113,v 114,v 115,v 116,v 117,v 118,v 119,v 120,v 121,v 122,v 123,v 124,v 125,v 126,v 127,v 128,v 129,v 130,v 131,v 132,v 133,v 134,v 135,v 136,v 137,v 138],[]⟩ [.code kLoop,.inLoop kLoop,.inBlock 0,.code kRest]) (b₁.at a₁ (.inRegion ops₁ (i₁ :: rest₁) :: k₁) :: cs₁)
end
theorem lit_of (l:Array Value) (n:Nat) (h:l.size=n):l=((List.range n).map fun i=>l.getD i undef).toArray:=by
 subst h
 refine Array.ext_getElem? fun i=>?_
 by_cases hi:i<l.size
 ·simp[hi]
 ·simp[hi]
section
variable {c:Cst} {b₁:Frame} {a₁:Act} {ops₁:Array Oper} {i₁:Nat} {rest₁:List Nat} {k₁:List Item} {cs₁:List Frame}
set_option maxRecDepth 100000 in
theorem kHd_of {o:Wd} {a s:Bool} {it:Nat} (ho:hdOk o a s it) {ws:Int} (l:Array Value) (hl:l.size=139) (h0:l[0]? = some (.pointer (some ⟨c.Fd,0,none⟩))) (h2:l[2]? = some (.int .i64 ws)) (h3:l[3]? = some (.bool s)) (h4:l[4]? = some (.bool a)) (h5:l[5]? = some (.int .i64 (it:Nat))) (h6:l[6]? = some (.int .i32 o.enc)) :
  kHd c b₁ a₁ ops₁ i₁ rest₁ k₁ cs₁ o a s it (G ((base 89).at ⟨l,[]⟩ [.code kLoop,.inLoop kLoop,.inBlock 0,.code kRest]) (b₁.at a₁ (.inRegion ops₁ (i₁ :: rest₁) :: k₁) :: cs₁)):=by
 have e:=lit_of l 139 hl
 have f:∀(i:Nat) (x:Value),l[i]? = some x→l.getD i undef=x:=fun i x hx=>by simp[Array.getD_eq_getD_getElem?,hx]
 refine ⟨ho,ws,fun i=>l.getD i undef,?_⟩
 rw[←f 0 _ h0,←f 2 _ h2,←f 3 _ h3,←f 4 _ h4,←f 5 _ h5,←f 6 _ h6]
 generalize hv:(fun i=>l.getD i undef)=v at e
 have fv:∀i,l.getD i undef=v i:=fun i=>by rw[←hv]
 simp only[fv]
 rw[e]
 rfl
end
end Go.Proofs.Ytpdemelchhkfaaa.Cs

/-
  sync.Mutex's Lock, walked: its front.
-/
namespace Go.Proofs.Ytpdemelchhkfaaa.Cs
open Go.Conc Go.RowKit Go.Conc.Lib Go.ConcR.Gen Go.ConcN.Gen
open Go.ConcR (KK WgAt wgBlock stA smA rd wr mk DC0)
open Go.ConcM (OsLater goes_pad)
theorem db_none {c:Cst} {q:Nat} {w:World} {es:Array Event} (h:∀e ∈ es,False):DB c q w w es:=⟨fun _ _=>rfl,rfl,fun cs e=>⟨cs,e,rfl,rfl,rfl⟩,rfl,rfl,fun e he=>(h e he).elim⟩
macro_rules | `(tactic| u_none)=>`(tactic| refine db_none ?_)
theorem zu_m:Try.prog.underlying 137=some (.pointer 99):=by kernel_rfl
theorem zz_m:(Try.prog.info? 99).map (fun i=>decide (i.size=0))=some false:=by kernel_rfl
theorem mu_cell0 {c:Cst} {tW:TypeId} {w:World} (h:Ok3 c tW w):∃v:Value,w.cell? ⟨c.Fd,0,none⟩=some v:=by
 obtain ⟨W,m,k,_⟩:=h.mu
 exact ⟨_,k⟩
noncomputable def bodyW:Code:=Try.f79.body.getD .skip
noncomputable def bodyL:Code:=Try.f86.body.getD .skip
noncomputable def kO4:Array Oper:=match bodyL with | .seq _ (.seq _ (.region _ o _))=>o | _=>#[]
noncomputable def kOW:Array Oper:=match bodyW with | .region _ o _=>o | _=>#[]
def kA4 (c:Cst):Act:=⟨#[.pointer (some ⟨c.Fd,0,none⟩),undef,.tuple #[],.pointer (some ⟨c.Fd,0,none⟩),.pointer (some ⟨c.Fd,0,none⟩),.pointer (some ⟨c.Fd,0,none⟩),.bool false,undef,undef,undef,undef,.pointer (some ⟨c.Fd,0,none⟩),undef],[]⟩
noncomputable def kCs (c:Cst) (b₀:Frame) (a₀:Act) (ops₀:Array Oper) (i₀:Nat) (rest₀:List Nat) (k₀:List Item) (cs:List Frame):List Frame :=
 (base 79).at ⟨#[.pointer (some ⟨c.Fd,0,none⟩),undef,.pointer (some ⟨c.Fd,0,none⟩),.pointer (some ⟨c.Fd,0,none⟩),.pointer (some ⟨c.Fd,0,none⟩),undef],[]⟩ [.inRegion kOW [3]] :: b₀.at a₀ (.inRegion ops₀ (i₀ :: rest₀) :: k₀) :: cs
noncomputable def lkHd (c:Cst) (b₀:Frame) (a₀:Act) (ops₀:Array Oper) (i₀:Nat) (rest₀:List Nat) (k₀:List Item) (cs:List Frame):Wd→Bool→Bool→Nat→Goroutine→Prop :=
 kHd c (base 86) (kA4 c) kO4 1 [] [] (kCs c b₀ a₀ ops₀ i₀ rest₀ k₀ cs)
def AftC (P:Program) (c:Cst) (tW tX:TypeId) (R:Nat→Array Value) {β:Type} (eB:β→Nat→Value) (up:β→Nat→β) (k q:Nat) (Ur:Goroutine→Prop) (g:Goroutine):Prop :=
 ∃m,∀b w,Ok3 c tW w→BxR R tX k q w→bdC c w (eB b)→WalkC P c tW tX R k q (eB (up b k)) Ur m g w
def yLa (P:Program) (c:Cst) (tW:TypeId) (Aft:Goroutine→Prop) (g:Goroutine):Prop:=isG g∧∃g',(∀w,Ok3 c tW w→stepG P false g w=.go g' w #[mk (.acquire (muA3 c))])∧Aft g'
section
variable {c:Cst} {tW tX:TypeId} {R:Nat→Array Value} {β:Type} {eB:β→Nat→Value} {up:β→Nat→β} {k q:Nat} {Ur:Goroutine→Prop}
theorem rb_rely {b:Nat→Value} {w w₁:World} (h:Ok3 c tW w∧BxR R tX k q w∧bdC c w b) (r:RB c tW tX R k q w w₁):Ok3 c tW w₁∧BxR R tX k q w₁∧bdC c w₁ b :=
 ⟨r.1,r.2.1,fun i h2 hi=>by rw[r.2.2 i h2];exact h.2.2 i h2 hi⟩
variable {b₀:Frame} {a₀:Act} {ops₀:Array Oper} {i₀:Nat} {rest₀:List Nat} {k₀:List Item} {cs:List Frame}
set_option maxRecDepth 100000 in
set_option maxHeartbeats 8000000 in
theorem lock_go (hK:2≤c.K) (hT:AftC Try.prog c tW tX R eB up k q Ur (G (b₀.at (a₀.put ((ops₀[i₀]?).bind (·.dst)) (.tuple #[])) (.inRegion ops₀ rest₀ :: k₀)) cs)) :
  ∀w,Ok3 c tW w→Goes Try.prog false (fun _ w=>Ok3 c tW w) DC0 (fun g _=>g.status=.running∧yLd Try.prog c tW (yLa Try.prog c tW (AftC Try.prog c tW tX R eB up k q Ur)) ((lkHd c b₀ a₀ ops₀ i₀ rest₀ k₀ cs)) g) 40 (G ((base 79).at ⟨#[.pointer (some ⟨c.Fd,0,none⟩),undef,undef,undef,undef,undef],[]⟩ [.code bodyW]) (b₀.at a₀ (.inRegion ops₀ (i₀ :: rest₀) :: k₀) :: cs)) w:=by
 intro w hF
 simp only[bodyW,Try.f79,Option.getD_some]
 repeat w_go ok_rely
 u_call Try.func86 znm_l Try.f86 ok_rely hF
 repeat w_go ok_rely
 refine Goes.stop (fun w₁ h₁=>?_)
 clear h₁ hF
 refine ⟨rfl,⟨_,_,rfl⟩,fun w W m hk hm hsf hok hq hm1 _=>⟨_,W,m,_,w,_,.ld,stepG_mark0 .disable (by simp) rfl rfl (by k_ne) rfl wgLib.f_disable (x_disable_n wgL) (x_disable_b wgL) (x_disable_x wgL) (x_disable_f wgL),MuTo.same hm,fun e he=>by simp at he;subst he;exact .inr (.inl rfl),rfl,rfl,on3_of 40 rfl fun w hF=>?_⟩⟩
 clear hk hm hsf hok hq hm1
 walk_nrm
 repeat w_go ok_rely
 refine Goes.stop (fun w₁ h₁=>?_)
 clear h₁ hF
 refine ⟨rfl,⟨_,_,rfl⟩,fun w W m hk hm hsf hok hq hm1 _=>?_⟩
 by_cases hW:W=⟨0,0,0,0⟩
 ·subst hW
  refine ⟨.le,⟨1,0,0,0⟩,m,_,_,_,.l0h,stepG_cas_hit rfl rfl (by k_ne) rfl Try.func88 zcas_n zcas_b zcas_x .i32 zcas_f rfl rfl rfl (show w.cell? _=some (.int .i32 0) from hm.1) (fd_thaw hk 0),MuTo.st hk hK hm ⟨1,0,0,0⟩,fun e he=>?_,rfl,.inl ⟨rfl,on3_of 40 rfl fun w hF=>?_⟩⟩
  ·simp at he
   rcases he with rfl | rfl
   ·exact .inl ⟨0,false,by omega,rfl⟩
   ·exact .inl ⟨0,true,by omega,rfl⟩
  clear hk hm hsf hok hq hm1
  walk_nrm
  repeat w_go ok_rely
  refine Goes.stop (fun w₁ h₁=>?_)
  clear h₁ hF
  refine ⟨rfl,⟨_,_,rfl⟩,fun w W m hk hm hsf hok hq hm1 _=>⟨_,W,m,_,w,_,.le,stepG_mark0 .enable (by simp) rfl rfl (by k_ne) rfl wgLib.f_enable (x_enable_n wgL) (x_enable_b wgL) (x_enable_x wgL) (x_enable_f wgL),MuTo.same hm,fun e he=>by simp at he;subst he;exact .inr (.inr rfl),rfl,rfl,on3_of 40 rfl fun w hF=>?_⟩⟩
  clear hk hm hsf hok hq hm1
  walk_nrm
  repeat w_go ok_rely
  m_convG Try.prog wgLib.underlying_tUP zu_m zz_m (mu_cell0 hF).choose_spec ok_rely hF
  refine Goes.stop (fun w₁ h₁=>?_)
  clear h₁ hF
  refine ⟨rfl,⟨_,_,rfl⟩,_,fun w _=>stepG_markAt .acquire (by simp) rfl rfl (by k_ne) rfl wgLib.f_acquire (x_acquire_n wgL) (x_acquire_b wgL) (x_acquire_x wgL) (x_acquire_f wgL) (by simp[Act.eval,muA3]),?_⟩
  obtain ⟨mT,hT'⟩:=hT
  refine ⟨mT+20,fun b w h1 h2 h3=>?_⟩
  have hF:=And.intro h1 (And.intro h2 h3)
  clear h1 h2 h3
  unfold WalkC
  walk_nrm
  repeat w_go rb_rely
  u_leave0 Try.func86 rb_rely hF
  repeat w_go rb_rely
  u_leave0 Try.func79 rb_rely hF
  exact goes_pad (hT' b _ hF.1 hF.2.1 hF.2.2) _
 ·refine ⟨.r0,W,m,_,_,_,.l0m hW,stepG_cas_miss rfl rfl (by k_ne) rfl Try.func88 zcas_n zcas_b zcas_x .i32 zcas_f rfl rfl rfl hm.1 (fd_thaw hk 0) (fun e=>hW (enc_inj hok ⟨by decide,by decide,by decide⟩ (e.trans rfl))),MuTo.same hm,fun e he=>?_,rfl,.inr ⟨rfl,on3_of 80 rfl fun w hF=>?_⟩⟩
  ·simp at he
   subst he
   exact .inl ⟨0,false,by omega,rfl⟩
  clear hk hm hsf hok hq hm1
  walk_nrm
  repeat w_go ok_rely
  u_call Try.func89 znm_s Try.f89 ok_rely hF
  repeat w_go ok_rely
  refine Goes.stop (fun w₁ h₁=>?_)
  clear h₁ hF
  refine ⟨rfl,⟨_,_,rfl⟩,fun w W m hk hm hsf hok hq hm1 _=>⟨_,W,m,_,w,_,.r0,stepG_loadN rfl rfl (by k_ne) rfl rfl hm.1 zq_s,MuTo.same hm,fun e he=>by simp at he,(deaf_head _ _ _ _).symm,W,false,false,0,rfl,on3_of 60 rfl fun w hF=>?_⟩⟩
  have ho:hdOk W false false 0:=⟨hok,hq,fun e=>(by cases e),fun _=>rfl,by omega⟩
  clear hk hm hsf hok hq hm1
  walk_nrm
  repeat w_but "code.loop" ok_rely
  u_c stepG_loop ok_rely hF
  refine Goes.stop (fun w₁ h₁=>⟨rfl,?_⟩)
  exact kHd_of ho _ rfl rfl rfl rfl rfl rfl rfl
end
end Go.Proofs.Ytpdemelchhkfaaa.Cs

/-
  lockSlow, walked: behind its loop; back to Lock's caller.
-/
namespace Go.Proofs.Ytpdemelchhkfaaa.Cs
open Go.Conc Go.RowKit Go.Conc.Lib Go.ConcR.Gen Go.ConcN.Gen
open Go.ConcR (KK WgAt wgBlock stA smA rd wr mk DC0)
open Go.ConcM (OsLater goes_pad)
section
variable {c:Cst} {tW tX:TypeId} {R:Nat→Array Value} {β:Type} {eB:β→Nat→Value} {up:β→Nat→β} {k q:Nat} {Ur:Goroutine→Prop}
variable {b₀:Frame} {a₀:Act} {ops₀:Array Oper} {i₀:Nat} {rest₀:List Nat} {k₀:List Item} {cs:List Frame}
set_option maxRecDepth 100000 in
set_option maxHeartbeats 8000000 in
theorem slow_ret (hT:AftC Try.prog c tW tX R eB up k q Ur (G (b₀.at (a₀.put ((ops₀[i₀]?).bind (·.dst)) (.tuple #[])) (.inRegion ops₀ rest₀ :: k₀)) cs)) :
  AftC Try.prog c tW tX R eB up k q Ur (G ((base 86).at ((kA4 c).put ((kO4[1]?).bind (·.dst)) (.tuple #[])) [.inRegion kO4 []]) (kCs c b₀ a₀ ops₀ i₀ rest₀ k₀ cs)):=by
 obtain ⟨mT,hT'⟩:=hT
 refine ⟨mT+20,fun b w h1 h2 h3=>?_⟩
 have hF:=And.intro h1 (And.intro h2 h3)
 clear h1 h2 h3
 unfold WalkC
 simp only[kA4,kO4,kOW,kCs,bodyL,bodyW,Try.f86,Try.f79,Option.getD_some]
 walk_nrm
 repeat w_go rb_rely
 u_leave0 Try.func86 rb_rely hF
 repeat w_go rb_rely
 u_leave0 Try.func79 rb_rely hF
 exact goes_pad (hT' b _ hF.1 hF.2.1 hF.2.2) _
end
section
variable (c:Cst) (b₁:Frame) (a₁:Act) (ops₁:Array Oper) (i₁:Nat) (rest₁:List Nat) (k₁:List Item) (cs₁:List Frame)
def kLe (g:Goroutine):Prop:=∃v:Nat→Value,g=G ((base 89).at ⟨#[.pointer (some ⟨c.Fd,0,none⟩),v 1,v 2,v 3,v 4,v 5,v 6,v 7,v 8,v 9,v 10,v 11,v 12,v 13,v 14,v 15,v 16,v 17,v 18,v 19,v 20,v 21,v 22,v 23,v 24,v 25,v 26,v 27,v 28,v 29,v 30,v 31,v 32,v 33,v 34,v 35,v 36,v 37,v 38,v 39,v 40,v 41,v 42,v 43,v 44,v 45,v 46,v 47,v 48,v 49,v 50,v 51,v 52,v 53,v 54,v 55,v 56,v 57,v 58,v 59,v 60,v 61,v 62,v 63,v 64,v 65,v 66,v 67,v 68,v 69,v 70,v 71,v 72,v 73,v 74,v 75,v 76,v 77,v 78,v 79,v 80,v 81,v 82,v 83,v 84,v 85,v 86,v 87,v 88,v 89,v 90,v 91,v 92,v 93,v 94,v 95,v 96,v 97,v 98,v 99,v 100,v 101,v 102,v 103,v 104,v 105,v 106,v 107,v 108,v 109,v 110,v 111,v 112,v 113,v 114,v 115,v 116,v 117,v 118,v 119,v 120,v 121,v 122,v 123,v 124,v 125,v 126,v 127,v 128,v 129,v 130,v 131,v 132,v 133,v 134,v 135,v 136,v 137,v 138],[]⟩ [.code kRest]) (b₁.at a₁ (.inRegion ops₁ (i₁ :: rest₁) :: k₁) :: cs₁)
end
section
variable {c:Cst} {tW tX:TypeId} {R:Nat→Array Value} {β:Type} {eB:β→Nat→Value} {up:β→Nat→β} {k q:Nat} {Ur:Goroutine→Prop}
variable {b₁:Frame} {a₁:Act} {ops₁:Array Oper} {i₁:Nat} {rest₁:List Nat} {k₁:List Item} {cs₁:List Frame}
set_option maxRecDepth 100000 in
theorem kLe_of (l:Array Value) (hl:l.size=139) (h0:l[0]? = some (.pointer (some ⟨c.Fd,0,none⟩))) :
  kLe c b₁ a₁ ops₁ i₁ rest₁ k₁ cs₁ (G ((base 89).at ⟨l,[]⟩ [.code kRest]) (b₁.at a₁ (.inRegion ops₁ (i₁ :: rest₁) :: k₁) :: cs₁)):=by
 have e:=lit_of l 139 hl
 have f:∀(i:Nat) (x:Value),l[i]? = some x→l.getD i undef=x:=fun i x hx=>by simp[Array.getD_eq_getD_getElem?,hx]
 refine ⟨fun i=>l.getD i undef,?_⟩
 rw[←f 0 _ h0]
 generalize hv:(fun i=>l.getD i undef)=v at e
 have fv:∀i,l.getD i undef=v i:=fun i=>by rw[←hv]
 simp only[fv]
 rw[e]
 rfl
set_option maxRecDepth 100000 in
set_option maxHeartbeats 8000000 in
theorem le_go (hT:AftC Try.prog c tW tX R eB up k q Ur (G (b₁.at (a₁.put ((ops₁[i₁]?).bind (·.dst)) (.tuple #[])) (.inRegion ops₁ rest₁ :: k₁)) cs₁)) {g:Goroutine} (hg:kLe c b₁ a₁ ops₁ i₁ rest₁ k₁ cs₁ g) :
  ∀w,Ok3 c tW w→Goes Try.prog false (fun _ w=>Ok3 c tW w) DC0 (fun g _=>g.status=.running∧yLe Try.prog c tW (yLa Try.prog c tW (AftC Try.prog c tW tX R eB up k q Ur)) g) 20 g w:=by
 obtain ⟨v,rfl⟩:=hg
 intro w hF
 simp only[kRest,Try.f89,Option.getD_some]
 repeat w_go ok_rely
 refine Goes.stop (fun w₁ h₁=>?_)
 clear h₁ hF
 refine ⟨rfl,⟨_,_,rfl⟩,fun w W m hk hm hsf hok hq hm1 _=>⟨_,W,m,_,w,_,.le,stepG_mark0 .enable (by simp) rfl rfl (by k_ne) rfl wgLib.f_enable (x_enable_n wgL) (x_enable_b wgL) (x_enable_x wgL) (x_enable_f wgL),MuTo.same hm,fun e he=>by simp at he;subst he;exact .inr (.inr rfl),rfl,rfl,on3_of 40 rfl fun w hF=>?_⟩⟩
 clear hk hm hsf hok hq hm1
 walk_nrm
 repeat w_go ok_rely
 m_convG Try.prog wgLib.underlying_tUP zu_m zz_m (mu_cell0 hF).choose_spec ok_rely hF
 refine Goes.stop (fun w₁ h₁=>?_)
 clear h₁ hF
 refine ⟨rfl,⟨_,_,rfl⟩,_,fun w _=>stepG_markAt .acquire (by simp) rfl rfl (by k_ne) rfl wgLib.f_acquire (x_acquire_n wgL) (x_acquire_b wgL) (x_acquire_x wgL) (x_acquire_f wgL) (by simp[Act.eval,muA3]),?_⟩
 obtain ⟨mT,hT'⟩:=hT
 refine ⟨mT+20,fun b w h1 h2 h3=>?_⟩
 have hF:=And.intro h1 (And.intro h2 h3)
 clear h1 h2 h3
 unfold WalkC
 walk_nrm
 repeat w_go rb_rely
 u_leave0 Try.func89 rb_rely hF
 exact goes_pad (hT' b _ hF.1 hF.2.1 hF.2.2) _
end
end Go.Proofs.Ytpdemelchhkfaaa.Cs
