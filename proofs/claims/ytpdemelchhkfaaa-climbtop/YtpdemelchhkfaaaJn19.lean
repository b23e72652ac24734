import Derived.Conc.WgWords
import Derived.Conc.MuWords
import Derived.Test.YtpdemelchhkfaaaDwM
import Derived.Test.YtpdemelchhkfaaaJn14
namespace Go.Proofs.Ytpdemelchhkfaaa
namespace Cs
open Go.Conc
open Go.ConcR (KK WgAt wgBlock stA smA rd wr mk DC0)
theorem aR {P:Program} {main:Bool} {R:World→World→Prop} {D D':World→World→Array Event→Prop} {A B:Goroutine→World→Prop} (hD:∀w w' es,D w w' es→D' w w' es) (hA:∀g w,A g w→B g w):∀{m:Nat} {g:Goroutine} {w:World},Goes P main R D A m g w→Goes P main R D' B m g w
 | 0,_,_,h=>fun w₁ h₁=>hA _ _ (h w₁ h₁)
 | m+1,g,w,h=>by
  rcases h with h | ⟨hs,h⟩
  ·exact .inl fun w₁ h₁=>hA _ _ (h w₁ h₁)
  ·refine .inr ⟨hs,fun w₁ h₁=>?_⟩
   have:=h w₁ h₁
   revert this
   cases stepG P main g w₁ <;> simp only[GStep.goes,imp_self]
   exact fun x=>⟨hD _ _ _ x.1,aR hD hA x.2⟩
theorem dO {P:Program} {main:Bool} {S:World→Prop} {D:World→World→Array Event→Prop} {A B:Goroutine→World→Prop} {n:Nat} (hn:∀g w,A g w→S w→Goes P main (fun _ w=>S w) D B n g w):∀{m:Nat} {g:Goroutine} {w:World},Goes P main (fun _ w=>S w) D A m g w→Goes P main (fun _ w=>S w) D B (m+n) g w:=by
 have stp:∀{g:Goroutine} {w:World},(∀w₁,S w₁→A g w₁)→Goes P main (fun _ w=>S w) D B n g w:=by
  intro g w h
  by_cases he:∃w₁,S w₁
  ·obtain ⟨w₁,h₁⟩:=he
   exact (hn g w₁ (h w₁ h₁) h₁).anyWorld w
  ·exact Goes.stop fun w₁ h₁=>absurd ⟨w₁,h₁⟩ he
 intro m
 induction m with
 | zero=>intro g w h;exact (stp h).mono (by omega)
 | succ m ih =>
  intro g w h
  rcases h with h | ⟨hs,h⟩
  ·exact (stp h).mono (by omega)
  ·rw[show m+1+n=(m+n)+1 by omega]
   refine Goes.step hs fun w₁ h₁=>?_
   have:=h w₁ h₁
   revert this
   cases stepG P main g w₁ <;> simp only[GStep.goes,imp_self]
   exact fun x=>⟨x.1,ih x.2⟩
theorem aG {P:Program} {main:Bool} {R:World→World→Prop} {D:World→World→Array Event→Prop} {A:Goroutine→World→Prop} {n:Nat} {b:Frame} {a:Act} {ops:Array Oper} {i:Nat} {rest:List Nat} {k:List Item} {cs:List Frame} {w:World}:Goes P main R D A n (G (b.at a (.inRegion ops (i :: rest) :: k)) cs) w=Goes P main R D A n (G (b.at a (.inRegion ops (i :: rest) :: k)) cs) w:=rfl
theorem cg {P:Program} {n d:Nat} {b:Frame} {a:Act} {ops:Array Oper} {i:Nat} {rest:List Nat} {k:List Item} {cs:List Frame}:QuitsD P n d (G (b.at a (.inRegion ops (i :: rest) :: k)) cs)=QuitsD P n d (G (b.at a (.inRegion ops (i :: rest) :: k)) cs):=rfl
theorem fW {P:Program}:∀{n m d:Nat} {g:Goroutine},QuitsD P n d g→n≤m→QuitsD P m d g
 | 0,0,_,_,h,_=>h
 | 0,_+1,_,_,h,_=>.inl h
 | n+1,0,_,_,_,h=>by omega
 | n+1,m+1,_,_,h,hl=>h.elim .inl fun ⟨hs,g',es,hm,hst,hq⟩=>.inr ⟨hs,g',es,hm,hst,fW hq (by omega)⟩
section
variable (P:Program) (c:Cst) (tW:TypeId)
theorem aa {c:Cst} {tW:TypeId} {w w₁:World} (_:Ok3 c tW w) (r:Ok3 c tW w₁):Ok3 c tW w₁:=r
theorem gI (w w':World) (es:Array Event) (h:DC0 w w' es):DQ c w w' es:=by
 obtain ⟨rfl,rfl⟩:=h
 exact ⟨rfl,rfl,rfl,rfl,fun e he=>by simp at he⟩
variable {P c tW} in
theorem dX {main:Bool} {Stp:Goroutine→Prop} {g:Goroutine} (m:Nat) (hs:g.status=.running) (h:∀w,Ok3 c tW w→Goes P main (fun _ w=>Ok3 c tW w) DC0 (fun g _=>g.status=.running∧Stp g) m g w):OnA P c tW main Stp g:=⟨hs,fun w hw=>⟨m,aR (gI c) (fun _ _ x=>x) (h w hw)⟩⟩
variable {P c tW} in
theorem aO {Stp:Goroutine→Prop} {g:Goroutine} (m:Nat) (hs:g.status=.running) (h:∀w,Ok3 c tW w→Goes P false (fun _ w=>Ok3 c tW w) DC0 (fun g _=>g.status=.running∧Stp g) m g w):OnL P c tW Stp g:=⟨hs,fun w hw=>⟨m,aR (fun w w' es x=>⟨gI c w w' es x,x.2⟩) (fun _ _ x=>x) (h w hw)⟩⟩
variable {P c tW} in
theorem fL {main:Bool} {A B:Goroutine→Prop} {g:Goroutine} (n:Nat) (h:OnA P c tW main A g) (hn:∀g,A g→∀w,Ok3 c tW w→WalkA P c tW main B n g w):OnA P c tW main B g :=
 ⟨h.1,fun w hw=>let ⟨m,hm⟩:=h.2 w hw;⟨m+n,dO (fun g w x hw=>hn g x.2 w hw) hm⟩⟩
def C6 (g:Goroutine):Prop:=isG g∧mayWake P g=true∧∃g',(∀w,WgAt tW c.C2 w 0 0→stepG P false g w=.go g' (w.setCell (smA c.C2) (.int .u32 1)) (semEvents (smA c.C2)))∧∃q,QuitsD P q 1 g'
def CN (g:Goroutine):Prop:=isG g∧∃g',(∀w,WgAt tW c.C2 w 1 0→stepG P false g w=.go g' (w.setCell (stA c.C2) (.int .u64 0)) #[wr (stA c.C2)])∧OnL P c tW (C6 P c tW) g'
def C5 (g:Goroutine):Prop:=isG g∧∃g',(∀w,WgAt tW c.C2 w 1 0→stepG P false g w=.go g' w #[rd (stA c.C2)])∧OnL P c tW (CN P c tW) g'
def Dx (g:Goroutine):Prop:=isG g∧∀v wt:Nat,wt≤1→v<2147483647→∃g',(∀w,WgAt tW c.C2 w (((v:Int)+1)*KK+wt) 0→stepG P false g w=.go g' (w.setCell (stA c.C2) (.int .u64 ((v:Int)*KK+wt))) #[rd (stA c.C2),wr (stA c.C2)]) ∧
  ((v=0∧wt=1)→OnL P c tW (C5 P c tW) g')∧(¬(v=0∧wt=1)→∃q,QuitsD P q 1 g')
def CW (g:Goroutine):Prop:=isG g∧∃g',(∀w,Ok3 c tW w→stepG P false g w=.go g' w #[mk .disable])∧OnL P c tW (Dx P c tW) g'
def Ak (g:Goroutine):Prop:=isG g∧∃g',(∀w,Ok3 c tW w→stepG P false g w=.go g' w #[mk (.releaseMerge (stA c.C2))])∧OnL P c tW (CW P c tW) g'
variable (Jn:Goroutine→Prop)
def CZ (g:Goroutine):Prop:=isG g∧∃g',(∀w,Ok3 c tW w→stepG P true g w=.go g' w #[mk (.acquire (stA c.C2))])∧OnA P c tW true Jn g'
def xKe (g:Goroutine):Prop:=isG g∧∃g',(∀w,Ok3 c tW w→stepG P true g w=.go g' w #[mk .enable])∧OnA P c tW true (CZ P c tW Jn) g'
def xW4 (g:Goroutine):Prop:=isG g∧∃g',(∀w,WgAt tW c.C2 w 0 0→stepG P true g w=.go g' w #[rd (stA c.C2)])∧OnA P c tW true (xKe P c tW Jn) g'
def xW3 (g:Goroutine):Prop:=isG g∧g.offers=none∧(∀w st,WgAt tW c.C2 w st 0→stepG P true g w=.go { g with status:=.blocked } w #[])∧∃g',(∀w,WgAt tW c.C2 w 0 1→stepG P true g w=.go g' (w.setCell (smA c.C2) (.int .u32 0)) (semEvents (smA c.C2)))∧OnA P c tW true (xW4 P c tW Jn) g'
def Cw (g:Goroutine):Prop:=isG g∧∃g',(∀w,Ok3 c tW w→stepG P true g w=.go g' w #[mk (.write (smA c.C2))])∧OnA P c tW true (xW3 P c tW Jn) g'
variable (An:Goroutine→Prop)
def xW2 (vs:Nat) (g:Goroutine):Prop:=isG g∧(∃g',(∀w,WgAt tW c.C2 w ((vs:Int)*KK) 0→stepG P true g w=.go g' (w.setCell (stA c.C2) (.int .u64 ((vs:Int)*KK+1))) #[rd (stA c.C2),wr (stA c.C2)])∧OnA P c tW true (Cw P c tW Jn) g') ∧
 ∀v:Nat,v<2147483648→v≠vs→∃g',(∀w,WgAt tW c.C2 w ((v:Int)*KK) 0→stepG P true g w=.go g' w #[rd (stA c.C2)])∧OnA P c tW true An g'
def xW1 (g:Goroutine):Prop:=isG g∧∀v:Nat,v<2147483648→∃g',(∀w,WgAt tW c.C2 w ((v:Int)*KK) 0→stepG P true g w=.go g' w #[rd (stA c.C2)])∧OnA P c tW true (fun g=>if v=0 then xKe P c tW Jn g else xW2 P c tW Jn An v g) g'
def xQ (g:Goroutine):Prop:=isG g∧∃g',(∀w,Ok3 c tW w→stepG P true g w=.go g' w #[mk .disable])∧OnA P c tW true An g'
end
end Cs
namespace Cs
open Go.Conc
theorem DL:∀m:Nat,m<8→m=7 &&& m:=by decide
theorem sZ (q c m:Nat) (hc:c<8) (hm:m<8):(c+8*q) &&& m=c &&& m:=by
 have e:=DL m hm
 have e7:(7:Nat)=2 ^ 3-1:=by decide
 have e1:(c+8*q) &&& 7=c:=by rw[e7,Nat.and_two_pow_sub_one_eq_mod];omega
 rw[e,←Nat.and_assoc,e1,←e]
theorem Cc (q c m:Nat) (hc:c<8) (hm:m<8):(c+8*q) ||| m=(c ||| m)+8*q:=by
 have h1:∀b,b<8→b+8*q=q <<< 3 ||| b:=by
  intro b hb
  have:=Nat.shiftLeft_add_eq_or_of_lt (i:=3) (b:=b) (by omega) q
  rw[Nat.shiftLeft_eq] at this ⊢
  omega
 have h2:c ||| m<8:=Nat.or_lt_two_pow (n:=3) hc hm
 rw[h1 c hc,h1 _ h2,Nat.or_assoc]
theorem gq (n:Int) (h₀:0≤n) (h₁:n<2 ^ 31):IntKind.i32.wrap n=n:=by rw[IntKind.wrap_i32];omega
theorem iP (q c m:Nat) (hc:c<8) (hm:m<8) (hq:q≤12001):bits .and .i32 ((c+8*q:Nat):Int) (m:Nat)=((c &&& m:Nat):Int):=by
 rw[(bits_nat .i32 31 (by decide) gq (c+8*q) m (by omega) (by omega)).1,sZ q c m hc hm]
theorem sU (q c m:Nat) (hc:c<8) (hm:m<8) (hq:q≤12001):bits .or .i32 ((c+8*q:Nat):Int) (m:Nat)=(((c ||| m)+8*q:Nat):Int):=by
 rw[(bits_nat .i32 31 (by decide) gq (c+8*q) m (by omega) (by omega)).2,Cc q c m hc hm]
theorem rA (n:Nat) (h:n<2147483648) (h2:n &&& 2=2):bits .andNot .i32 (n:Int) 2=((n-2:Nat):Int):=by
 have key:(BitVec.ofInt 32 (n:Int) &&& ~~~ BitVec.ofInt 32 2)+(BitVec.ofInt 32 (n:Int) &&& BitVec.ofInt 32 2)=BitVec.ofInt 32 (n:Int):=by
  rw[BitVec.add_eq_or_of_and_eq_zero]
  ·rw[←BitVec.and_or_distrib_left,BitVec.or_comm,BitVec.or_not_self,BitVec.and_allOnes]
  ·rw[BitVec.and_assoc,←BitVec.and_assoc (~~~ BitVec.ofInt 32 2),BitVec.and_comm (~~~ BitVec.ofInt 32 2) _,BitVec.and_assoc,BitVec.and_comm (~~~ BitVec.ofInt 32 2),BitVec.and_not_self]
   simp
 have hn:(BitVec.ofInt 32 (n:Int)).toNat=n:=by rw[BitVec.ofInt_natCast,BitVec.toNat_ofNat];exact Nat.mod_eq_of_lt (by omega)
 have h22:(BitVec.ofInt 32 (2:Int)).toNat=2:=by decide
 have k2:=congrArg BitVec.toNat key
 rw[BitVec.toNat_add,BitVec.toNat_and (x:=BitVec.ofInt 32 (n:Int)) (y:=BitVec.ofInt 32 2),hn,h22,h2] at k2
 have h3:(BitVec.ofInt 32 (n:Int) &&& ~~~ BitVec.ofInt 32 2).toNat≤n:=by
  rw[BitVec.toNat_and,hn];exact Nat.and_le_left
 have h4:(BitVec.ofInt 32 (n:Int) &&& ~~~ BitVec.ofInt 32 2).toNat=n-2:=by omega
 show IntKind.i32.wrap ((BitVec.ofInt 32 (n:Int) &&& ~~~ BitVec.ofInt 32 2).toNat:Int)=_
 rw[h4]
 exact gq _ (by omega) (by omega)
def Wd.low (W:Wd):Nat:=W.l+2*W.w+4*W.s
theorem Wd.ok.low {W:Wd} (h:W.ok):W.low<8:=by obtain ⟨h1,h2,h3⟩:=h;unfold Wd.low;omega
theorem Wd.ok.cases {p:Nat→Nat→Nat→Prop} (h:∀l,l≤1→∀w,w≤1→∀s,s≤1→p l w s) {W:Wd} (k:W.ok):p W.l W.w W.s:=h _ k.1 _ k.2.1 _ k.2.2
section
variable {W:Wd} (h:W.ok) (hq:W.q≤12001)
include h hq
theorem nk:bits .and .i32 W.enc 1=(W.l:Int):=by
 have:=iP W.q W.low 1 h.low (by decide) hq
 have k:W.low &&& 1=W.l:=h.cases (p:=fun l w s=>(l+2*w+4*s) &&& 1=l) (by decide)
 rw[k] at this;exact this
theorem xR:bits .and .i32 W.enc 2=((2*W.w:Nat):Int):=by
 have:=iP W.q W.low 2 h.low (by decide) hq
 have k:W.low &&& 2=2*W.w:=h.cases (p:=fun l w s=>(l+2*w+4*s) &&& 2=2*w) (by decide)
 rw[k] at this;exact this
theorem D3:bits .and .i32 W.enc 3=((W.l+2*W.w:Nat):Int):=by
 have:=iP W.q W.low 3 h.low (by decide) hq
 have k:W.low &&& 3=W.l+2*W.w:=h.cases (p:=fun l w s=>(l+2*w+4*s) &&& 3=l+2*w) (by decide)
 rw[k] at this;exact this
theorem lf:bits .and .i32 W.enc 4=((4*W.s:Nat):Int):=by
 have:=iP W.q W.low 4 h.low (by decide) hq
 have k:W.low &&& 4=4*W.s:=h.cases (p:=fun l w s=>(l+2*w+4*s) &&& 4=4*s) (by decide)
 rw[k] at this;exact this
theorem iQ:bits .and .i32 W.enc 5=((W.l+4*W.s:Nat):Int):=by
 have:=iP W.q W.low 5 h.low (by decide) hq
 have k:W.low &&& 5=W.l+4*W.s:=h.cases (p:=fun l w s=>(l+2*w+4*s) &&& 5=l+4*s) (by decide)
 rw[k] at this;exact this
theorem CK:bits .and .i32 W.enc 7=((W.l+2*W.w+4*W.s:Nat):Int):=by
 have:=iP W.q W.low 7 h.low (by decide) hq
 have k:W.low &&& 7=W.l+2*W.w+4*W.s:=h.cases (p:=fun l w s=>(l+2*w+4*s) &&& 7=l+2*w+4*s) (by decide)
 rw[k] at this;exact this
theorem or1:bits .or .i32 W.enc 1={ W with l:=1 }.enc:=by
 have:=sU W.q W.low 1 h.low (by decide) hq
 have k:W.low ||| 1=1+2*W.w+4*W.s:=h.cases (p:=fun l w s=>(l+2*w+4*s) ||| 1=1+2*w+4*s) (by decide)
 rw[k] at this;exact this
theorem or2:bits .or .i32 W.enc 2={ W with w:=1 }.enc:=by
 have:=sU W.q W.low 2 h.low (by decide) hq
 have k:W.low ||| 2=W.l+2*1+4*W.s:=h.cases (p:=fun l w s=>(l+2*w+4*s) ||| 2=l+2*1+4*s) (by decide)
 rw[k] at this;exact this
theorem or4:bits .or .i32 W.enc 4={ W with s:=1 }.enc:=by
 have:=sU W.q W.low 4 h.low (by decide) hq
 have k:W.low ||| 4=W.l+2*W.w+4*1:=h.cases (p:=fun l w s=>(l+2*w+4*s) ||| 4=l+2*w+4*1) (by decide)
 rw[k] at this;exact this
theorem zF (hw:W.w=1):bits .andNot .i32 W.enc 2={ W with w:=0 }.enc:=by
 obtain ⟨l,w,s,q⟩:=W
 obtain ⟨h1,h2,h3⟩:=h
 dsimp only at hw h1 h2 h3 hq
 subst hw
 have k:=sZ q (l+2*1+4*s) 2 (by omega) (by decide)
 have k2:(l+2*1+4*s) &&& 2=2:=by
  obtain rfl | rfl:l=0∨l=1:=by omega
  all_goals (obtain rfl | rfl:s=0∨s=1:=by omega)
  all_goals rfl
 refine (rA (l+2*1+4*s+8*q) (by omega) (by rw[k,k2])).trans ?_
 show ((l+2*1+4*s+8*q-2:Nat):Int)=((l+2*0+4*s+8*q:Nat):Int)
 omega
omit hq in
theorem zx:W.enc / 8=(W.q:Int):=by
 obtain ⟨h1,h2,h3⟩:=h
 unfold Wd.enc
 omega
theorem qG (h12:W.q≤12000):IntKind.i32.wrap (W.enc+8)={ W with q:=W.q+1 }.enc:=by
 obtain ⟨h1,h2,h3⟩:=h
 rw[IntKind.wrap_i32];simp only[Wd.enc];omega
theorem BV (h0:W.q≠0):IntKind.i32.wrap (W.enc-8)={ W with q:=W.q-1 }.enc:=by
 obtain ⟨h1,h2,h3⟩:=h
 rw[IntKind.wrap_i32];simp only[Wd.enc];omega
theorem C9 (h1:W.l=1):IntKind.i32.wrap (W.enc+-1)={ W with l:=0 }.enc:=by
 obtain ⟨_,h2,h3⟩:=h
 rw[IntKind.wrap_i32];simp only[Wd.enc];omega
theorem AA (h1:W.l=0):IntKind.i32.wrap (W.enc+1)={ W with l:=1 }.enc:=by
 obtain ⟨_,h2,h3⟩:=h
 rw[IntKind.wrap_i32];simp only[Wd.enc];omega
theorem CJ (h1:W.l=0) (h0:1≤W.q):IntKind.i32.wrap (W.enc+-7)={ W with l:=1,q:=W.q-1 }.enc:=by
 obtain ⟨_,h2,h3⟩:=h
 rw[IntKind.wrap_i32];simp only[Wd.enc];omega
theorem B4 (h1:W.l=0) (hs:W.s=1) (h0:1≤W.q):IntKind.i32.wrap (W.enc+-11)={ W with l:=1,s:=0,q:=W.q-1 }.enc:=by
 obtain ⟨_,h2,h3⟩:=h
 rw[IntKind.wrap_i32];simp only[Wd.enc];omega
end
theorem gp {V W:Wd} (hv:V.ok) (hw:W.ok) (e:V.enc=W.enc):V=W:=by
 obtain ⟨a,b,d,q⟩:=V
 obtain ⟨a',b',d',q'⟩:=W
 obtain ⟨h1,h2,h3⟩:=hv
 obtain ⟨k1,k2,k3⟩:=hw
 simp only[Wd.enc] at *
 simp only[Wd.mk.injEq]
 omega
end Cs
namespace Cs
open Go.Conc
open Go.ConcR (KK WgAt wgBlock stA smA rd wr mk DC0)
open Go.ConcM (OsLater)
section
variable (P:Program) (c:Cst) (tW:TypeId)
def xCl (x:Mx) (K:Mx→Goroutine→Prop) (g:Goroutine):Prop :=
 isG g∧∀w W m,Ok3 c tW w→muC c w W m→xe x W→W.ok→W.q≤12000→m≤1→(∀s,x=.s1 s→m=1)→∃x' W' m' g' w' es,Mv x W m x' W' m'∧stepG P false g w=.go g' w' es∧bC c w w' W' m' ∧
  (∀e ∈ es,(∃o wr,o<2∧e=⟨.cell ⟨c.Fd,o,none⟩,wr,true⟩)∨e=mk .disable∨e=mk .enable)∧deafBehind (mM x) es=mM x'∧K x' g'
variable {P c tW} in
theorem xCl.mono {x:Mx} {K K':Mx→Goroutine→Prop} {g:Goroutine} (h:xCl P c tW x K g) (hK:∀x' g',K x' g'→K' x' g'):xCl P c tW x K' g :=
 ⟨h.1,fun w W m a1 a2 a3 a4 a5 a6 a7=>let ⟨x',W',m',g',w',es,b1,b2,b3,b4,b5,b6⟩:=h.2 w W m a1 a2 a3 a4 a5 a6 a7;⟨x',W',m',g',w',es,b1,b2,b3,b4,b5,hK _ _ b6⟩⟩
variable (La:Goroutine→Prop) (Hd:Wd→Bool→Bool→Nat→Goroutine→Prop)
def vP (x':Mx) (g':Goroutine):Prop:=∃o a s it,x'=Mx.head o a s it∧OnL P c tW (Hd o a s it) g'
def yLe:Goroutine→Prop:=xCl P c tW .le fun x' g'=>x'=.la∧OnL P c tW La g'
def yA1 (o:Wd) (s:Bool):Goroutine→Prop:=xCl P c tW (.a1 o s) fun x' g'=>x'=.le∧OnL P c tW (yLe P c tW La) g'
def yR2 (s:Bool):Goroutine→Prop:=xCl P c tW (.r2 s) fun x' g'=>(∃o s',x'=.a1 o s'∧OnL P c tW (yA1 P c tW La o s') g')∨vP P c tW Hd x' g'
def yT2 (s:Bool):Goroutine→Prop:=xCl P c tW (.t2 s) fun x' g'=>∃s',x'=.r2 s'∧OnL P c tW (yR2 P c tW La Hd s') g'
def yS1 (s:Bool) (g:Goroutine):Prop:=xCl P c tW (.s1 s) (fun x' g'=>(∃s',x'=.t2 s'∧OnL P c tW (yT2 P c tW La Hd s') g')∨∃s',x'=.r2 s'∧OnL P c tW (yR2 P c tW La Hd s') g') g∧g.offers=none∧∀w W,Ok3 c tW w→muC c w W 0→stepG P false g w=.go { g with status:=.blocked } w #[]
def yT1 (s:Bool):Goroutine→Prop:=xCl P c tW (.t1 s) fun x' g'=>x'=.s1 s∧OnL P c tW (yS1 P c tW La Hd s) g'
def yR3 (a s:Bool) (it:Nat):Goroutine→Prop:=xCl P c tW (.r3 a s it) (vP P c tW Hd)
def yC2 (o:Wd) (a s:Bool) (it:Nat):Goroutine→Prop:=xCl P c tW (.c2 o a s it) fun x' g'=>(x'=.le∧OnL P c tW (yLe P c tW La) g')∨(x'=.t1 s∧OnL P c tW (yT1 P c tW La Hd s) g')∨(x'=.s1 s∧OnL P c tW (yS1 P c tW La Hd s) g')∨(x'=.r3 a s it∧OnL P c tW (yR3 P c tW Hd a s it) g')
def yR1 (a s:Bool) (it:Nat):Goroutine→Prop:=xCl P c tW (.r1 a s it) (vP P c tW Hd)
def yC1 (o:Wd) (it:Nat):Goroutine→Prop:=xCl P c tW (.c1 o it) fun x' g'=>∃a,x'=.r1 a false it∧OnL P c tW (yR1 P c tW Hd a false it) g'
def ySq (o:Wd) (a s:Bool) (it:Nat):Goroutine→Prop:=xCl P c tW (.sq o a s it) fun x' g'=>(x'=.c2 o a s it∧OnL P c tW (yC2 P c tW La Hd o a s it) g')∨(x'=.c1 o it∧OnL P c tW (yC1 P c tW Hd o it) g')∨(x'=.r1 a s it∧OnL P c tW (yR1 P c tW Hd a s it) g')
def yR0:Goroutine→Prop:=xCl P c tW .r0 (vP P c tW Hd)
def yL0:Goroutine→Prop:=xCl P c tW .l0 fun x' g'=>(x'=.le∧OnL P c tW (yLe P c tW La) g')∨(x'=.r0∧OnL P c tW (yR0 P c tW Hd) g')
def yLd:Goroutine→Prop:=xCl P c tW .ld fun x' g'=>x'=.l0∧OnL P c tW (yL0 P c tW La Hd) g'
variable (Ke:Goroutine→Prop) (Hu:Wd→Goroutine→Prop)
def yUe:Goroutine→Prop:=xCl P c tW .ue fun x' g'=>x'=.no∧Ke g'
def yUs (g:Goroutine):Prop:=mayWake P g=true∧xCl P c tW .us (fun x' g'=>x'=.ue∧OnL P c tW (yUe P c tW Ke) g') g
def yUx (g:Goroutine):Prop:=mayWake P g=true∧xCl P c tW .ux (fun x' g'=>x'=.ue∧OnL P c tW (yUe P c tW Ke) g') g
def zA (x':Mx) (g':Goroutine):Prop:=∃o:Wd,o.ok∧o.q≤12000∧((x'=.ue∧(o.q=0∨o.l=1∨o.w=1∨o.s=1))∨(x'=.uc o∧o.q≠0∧o.l=0∧o.w=0∧o.s=0))∧OnL P c tW (Hu o) g'
def yU2:Goroutine→Prop:=xCl P c tW .u2 (zA P c tW Hu)
def yUc (o:Wd):Goroutine→Prop:=xCl P c tW (.uc o) fun x' g'=>(x'=.us∧OnL P c tW (yUs P c tW Ke) g')∨(x'=.u2∧OnL P c tW (yU2 P c tW Hu) g')
def yU0:Goroutine→Prop:=xCl P c tW .u0 fun x' g'=>(x'=.ux∧OnL P c tW (yUx P c tW Ke) g')∨(x'=.ue∧OnL P c tW (yUe P c tW Ke) g')∨zA P c tW Hu x' g'
def yUd:Goroutine→Prop:=xCl P c tW .ud fun x' g'=>x'=.u0∧OnL P c tW (yU0 P c tW Ke Hu) g'
end
theorem bC.same {c:Cst} {w:World} {W:Wd} {m:Nat} (h:muC c w W m):bC c w w W m :=
 ⟨fun _ _=>rfl,rfl,fun cs e=>⟨cs,e,rfl,fun _ _=>rfl⟩,h,.refl _,rfl⟩
theorem Dj {c:Cst} {tW:TypeId} {w:World} (hk:Ok3 c tW w):∃cs,w.heap[c.Fd]? = some (.cells cs c.TF (0,0)):=by
 obtain ⟨cs,h,_⟩:=hk.ok.fd
 exact ⟨cs,h⟩
theorem bq {c:Cst} {tW:TypeId} {w:World} (hk:Ok3 c tW w) (i:Nat):w.frozen? ⟨c.Fd,i,none⟩=false:=by
 obtain ⟨cs,h⟩:=Dj hk
 simp[World.frozen?,h]
theorem iN {c:Cst} {w:World} {cs:Array Value} (h:w.heap[c.Fd]? = some (.cells cs c.TF (0,0))) (i:Nat):w.cell? ⟨c.Fd,i,none⟩=cs[i]?:=by
 simp[World.cell?,h]
end Cs
end Go.Proofs.Ytpdemelchhkfaaa
