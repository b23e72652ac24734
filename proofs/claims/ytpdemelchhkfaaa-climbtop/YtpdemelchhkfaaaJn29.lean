import Derived.Test.YtpdemelchhkfaaaEaD
namespace Go.Proofs.Ytpdemelchhkfaaa
namespace Cs
open Go.Conc Go.RowKit PK
def HI (H:Array Obj) (o:Os) (out:Array (Nat × ByteArray)) (W:World):Prop:=W.heap=H∧W.os=o∧W.output=out
section
variable {H:Array Obj} {o:Os} {out:Array (Nat × ByteArray)} {W:World}
theorem HI.at' (h:HI H o out W) (d:Nat):HI H o out (W.at d):=h
theorem HI.alloc (h:HI H o out W) (x:Obj):HI (H.push x) o out (W.alloc x):=⟨by show W.heap.push x=_;rw[h.1],h.2.1,h.2.2⟩
theorem fJ {q:Nat} {x:Value} {T:TypeId} (hq:W.heap[q]? = some (.cells #[x] T (0,0))):W.cell? ⟨q,0,none⟩=some x:=by rw[cell_of_row _ _ _ _ _ _ hq];rfl
end
def DG (Sn:Nat→Prop) (Fd:Nat) (w w':World) (es:Array Event):Prop:=DS Sn w w' es∧∀e ∈ es,∀x,(MemAct.ofEvent e).touch? = some x→∀ad,x.loc=.cell ad→ad.block≠Fd
section
variable {Sn:Nat→Prop} {Fd:Nat}
theorem aQ (w:World):DG Sn Fd w w #[]:=⟨⟨Nat.le_refl _,fun e he=>by simp at he⟩,fun e he=>by simp at he⟩
def EvG (Sn:Nat→Prop) (Fd size:Nat) (e:Event):Prop:=(EvS Sn size e∧e.loc≠.mark .disable∧e.loc≠.mark .enable)∧∀x,(MemAct.ofEvent e).touch? = some x→∀ad,x.loc=.cell ad→ad.block≠Fd
theorem bW {w w':World} {es:Array Event} (hs:w.heap.size≤w'.heap.size) (h:∀e ∈ es,EvG Sn Fd w'.heap.size e):DG Sn Fd w w' es:=⟨⟨hs,fun e he=>(h e he).1⟩,fun e he=>(h e he).2⟩
theorem ew {s:Nat} {a:Addr} {wr:Bool} (ha:a.block<s) (hn:¬Sn a.block) (hF:a.block≠Fd):EvG Sn Fd s ⟨.cell a,wr,false⟩:=by
 refine ⟨⟨⟨fun e=>?_,fun x hx=>?_⟩,(fun e=>by cases e),(fun e=>by cases e)⟩,fun x hx ad e=>?_⟩
 ·cases wr <;> cases e
 ·have e1:MemAct.ofEvent ⟨.cell a,wr,false⟩=.access ⟨.cell a,wr,false⟩:=by cases wr <;> rfl
  rw[e1] at hx
  cases hx
  exact ⟨ha,fun k=>absurd k hn⟩
 ·have e1:MemAct.ofEvent ⟨.cell a,wr,false⟩=.access ⟨.cell a,wr,false⟩:=by cases wr <;> rfl
  rw[e1] at hx
  cases hx
  cases e
  exact hF
theorem aE {Stp:Goroutine→World→Prop} {H:Array Obj} {o:Os} {out:Array (Nat × ByteArray)} {mu:Nat} {g:Goroutine} {w:World} (hI:HI H o out w) (hs:g.status=.running) (h:∀w₁,HI H o out w₁→(stepG Try.prog true g w₁).goes fun g' w' es=>DG Sn Fd w₁ w' es∧Goes Try.prog true AtRel (DG Sn Fd) Stp mu g' w'):Goes Try.prog true AtRel (DG Sn Fd) Stp (mu+1) g w :=
 Goes.step hs fun w₁ h₁=>by
  obtain ⟨d,rfl⟩:=h₁
  exact h _ (hI.at' d)
end
noncomputable def cO7:Array Oper:=match az 4 dr with | .seq (.region _ o _) _=>o | _=>#[]
noncomputable def cR8:Code:=match az 4 dr with | .seq _ c=>c | _=>.skip
noncomputable def uO3:Array Oper:=match az 3 (Try.f35.body.getD .skip) with | .seq (.region _ o _) _=>o | _=>#[]
def fZ (i:Nat):Int:=if i=26 then -9223372036854775808 else 0
def bdZ:Array Value:=#[.int .i32 0,.int .u32 0]++ints 28 fZ
theorem zl:(Array.foldl (fun cs x=>cs.setIfInBounds (2+x.snd) x.fst) (#[Value.int IntKind.i32 0,Value.int IntKind.u32 0]++ints 28 fun _=>0) (ints 28 fZ).zipIdx 0 28)=bdZ:=by kernel_rfl
theorem jD:bdZ.size=30:=by simp[bdZ,af]
theorem rN:(Try.prog.info? 103).map (·.size)=some 30:=by kernel_rfl
theorem Ac:∀v ∈ bdZ.toList,v.oneCell'=true:=fun v hv=>by
 simp[bdZ,ints,tab] at hv
 rcases hv with rfl | rfl | ⟨_,_,rfl⟩ <;> rfl
theorem vp {cur:Array Value} (h:cur.size=30):(cur.toList.take 0++bdZ.toList++cur.toList.drop (0+bdZ.size)).toArray=bdZ:=by
 have e:cur.toList.drop (0+bdZ.size)=[]:=List.drop_eq_nil_of_le (by rw[jD];simp[h])
 rw[e]
 simp
theorem Bo {X:Array Obj} {A B:Array Value} {T:TypeId} {o:Os} {out:Array (Nat × ByteArray)} {W:World} (h:HI (X.push (.cells A T (0,0))) o out W) {q:Nat} (hq:q=X.size):HI (X.push (.cells B T (0,0))) o out (W.setRow q B):=by
 subst hq
 have hr:ai W X.size T A:=by
  show W.heap[X.size]? = _
  rw[h.1,Array.getElem?_push,if_pos rfl]
 refine ⟨Array.ext_getElem? fun i=>?_,h.2.1,h.2.2⟩
 by_cases e:i=X.size
 ·subst e
  rw[Array.getElem?_push,if_pos rfl]
  exact hr.row B
 ·rw[setRow_other _ _ _ _ e,h.1,Array.getElem?_push,Array.getElem?_push,if_neg e,if_neg e]
theorem yW:(ints 28 fun _=>0).setIfInBounds 26 (.int .i64 (-9223372036854775808))=ints 28 fZ:=rfl
set_option maxRecDepth 100000 in
set_option maxHeartbeats 8000000 in
theorem A1 (g:Nat→Value) (s:ByteArray) (v:Value) (seed tries ah b7 b10 b13:Nat) (cs:List Frame) (Sn:Nat→Prop) (H:Array Obj) (o:Os) (out:Array (Nat × ByteArray)) (hSn:∀i,i<5→¬Sn (H.size+i)) (w:World) (hI:HI H o out w) :
  ∃mu,Goes Try.prog true AtRel (DG Sn (H.size+40)) (fun g' w'=>∃u:Nat→Value,g'=G ((base 35).at ⟨#[.int .i64 (ah:Nat),.int .i64 (tries:Nat),.func (.func 36) #[] #[.pointer (some ⟨b13,0,none⟩),.pointer (some ⟨b7,0,none⟩)],.pointer (some ⟨H.size,0,none⟩),.pointer (some ⟨H.size+1,0,none⟩),.pointer (some ⟨H.size+2,0,none⟩),.pointer (some ⟨H.size+3,0,none⟩),.pointer (some ⟨H.size+4,0,none⟩),.pointer (some ⟨H.size+5,0,none⟩),undef,u 10,u 11,.int .i64 (ah:Nat),undef,undef,undef,undef,undef,undef,undef,undef,undef,undef],[]⟩ [.inRegion uO3 [1],.code gcB]) (mkF 13 #[.string s,v,.int .u64 (seed:Nat),.int .i64 (tries:Nat),.int .i64 (ah:Nat),g 5,g 6,.pointer (some ⟨b7,0,none⟩),g 8,g 9,.pointer (some ⟨b10,0,none⟩),.int .i64 0,g 12,.pointer (some ⟨b13,0,none⟩),g 14,g 15,g 16,g 17,g 18,g 19,g 20,g 21,g 22,g 23,g 24,g 25,g 26,g 27,g 28,g 29,g 30,g 31,g 32,g 33,g 34,g 35,g 36,g 37,g 38,.int .i64 (ah:Nat),.int .i64 (tries:Nat),.func (.func 36) #[] #[.pointer (some ⟨b13,0,none⟩),.pointer (some ⟨b7,0,none⟩)],g 42] [.inRegion cO7 [3,4,5],.code cR8] .run :: cs)∧HI ((((((H.push (.cells #[.int .i64 (ah:Nat)] 3)).push (.cells #[.int .i64 (tries:Nat)] 3)).push (.cells #[.func (.func 36) #[] #[.pointer (some ⟨b13,0,none⟩),.pointer (some ⟨b7,0,none⟩)]] 74)).push (.cells (ints 28 fun _=>0) 43)).push (.cells bdZ 103)).push (.cells #[.int .u64 0,.int .u32 0] 91)) o out w') mu (G (mkF 13 #[.string s,v,.int .u64 (seed:Nat),.int .i64 (tries:Nat),.int .i64 (ah:Nat),g 5,g 6,.pointer (some ⟨b7,0,none⟩),g 8,g 9,.pointer (some ⟨b10,0,none⟩),.int .i64 0,g 12,.pointer (some ⟨b13,0,none⟩),g 14,g 15,g 16,g 17,g 18,g 19,g 20,g 21,g 22,g 23,g 24,g 25,g 26,g 27,g 28,g 29,g 30,g 31,g 32,g 33,g 34,g 35,g 36,g 37,g 38,g 39,g 40,g 41,g 42] [.code (az 4 dr)] .run) cs) w:=by
 have hz43:=gh (P:=Try.prog) (t:=43) (z:=.agg (ints 28 fun _=>0)) (by kernel_rfl)
 have hz103:=gh (P:=Try.prog) (t:=103) (z:=.agg (#[.int .i32 0,.int .u32 0]++ints 28 fun _=>0)) (by kernel_rfl)
 refine ⟨80,?_⟩
 simp only[az,dr,Try.f13,Option.getD_some,cO7,cR8]
 show Goes _ _ _ _ _ _ (G ((base 13).at ⟨#[.string s,v,.int .u64 (seed:Nat),.int .i64 (tries:Nat),.int .i64 (ah:Nat),g 5,g 6,.pointer (some ⟨b7,0,none⟩),g 8,g 9,.pointer (some ⟨b10,0,none⟩),.int .i64 0,g 12,.pointer (some ⟨b13,0,none⟩),g 14,g 15,g 16,g 17,g 18,g 19,g 20,g 21,g 22,g 23,g 24,g 25,g 26,g 27,g 28,g 29,g 30,g 31,g 32,g 33,g 34,g 35,g 36,g 37,g 38,g 39,g 40,g 41,g 42],[]⟩ _) cs) w
 repeat (refine aE hI rfl (fun w₁ h₁=>?_);walk_rw;refine ⟨aQ _,?_⟩;clear hI;have hI:=h₁;clear h₁)
 refine aE hI rfl (fun w₁ h₁=>?_)
 refine goes_oper_k rfl rfl (by decide) (fun K hK=>?_)
 go_simp
 refine hK _ _ ⟨bW (by simp) (fun e he=>?_),?_⟩
 ·have hm:=mem_listed he
  simp[go_sem, *] at hm
 clear hK K hI
 have hI:=h₁
 clear h₁
 refine aE hI rfl (fun w₁ h₁=>?_)
 refine goes_oper_k rfl rfl (by decide) (fun K hK=>?_)
 go_simp
 refine hK _ _ ⟨bW (by simp) (fun e he=>?_),?_⟩
 ·have hm:=mem_listed he
  simp[go_sem, *] at hm
 clear hK K hI
 have hI:=h₁
 clear h₁
 refine aE hI rfl (fun w₁ h₁=>?_)
 refine goes_oper_k rfl rfl (by decide) (fun K hK=>?_)
 go_simp
 refine hK _ _ ⟨bW (by simp) (fun e he=>?_),?_⟩
 ·have hm:=mem_listed he
  simp[go_sem, *] at hm
 clear hK K hI
 have hI:=h₁
 clear h₁
 refine aE hI rfl (fun w₁ h₁=>?_)
 refine goes_call rfl rfl (by decide) rfl Try.func35 (by kernel_rfl) rfl ?_
 refine ⟨aQ _,?_⟩
 clear hI
 have hI:=h₁
 clear h₁
 have e1:∀(a:Act),a.eval (.tmp 39)=.int .i64 (ah:Nat)→a.eval (.tmp 40)=.int .i64 (tries:Nat)→a.eval (.tmp 41)=.func (.func 36) #[] #[.pointer (some ⟨b13,0,none⟩),.pointer (some ⟨b7,0,none⟩)]→(#[Operand.tmp 39,.tmp 40,.tmp 41].map a.eval++Array.replicate (Try.f35.ntmps-(#[Operand.tmp 39,.tmp 40,.tmp 41].map a.eval).size) undef)=#[.int .i64 (ah:Nat),.int .i64 (tries:Nat),.func (.func 36) #[] #[.pointer (some ⟨b13,0,none⟩),.pointer (some ⟨b7,0,none⟩)],undef,undef,undef,undef,undef,undef,undef,undef,undef,undef,undef,undef,undef,undef,undef,undef,undef,undef,undef,undef]:=fun a k1 k2 k3=>by
  simp[k1,k2,k3,Array.replicate,List.replicate]
 rw[e1 _ rfl rfl rfl]
 clear e1
 simp only[gcB,uO3,az,Try.f35,Option.getD_some]
 repeat (refine aE hI rfl (fun w₁ h₁=>?_);walk_rw;refine ⟨aQ _,?_⟩;clear hI;have hI:=h₁;clear h₁)
 refine aE hI rfl (fun w₁ h₁=>?_)
 refine goes_oper_k rfl rfl (by decide) (fun K hK=>?_)
 go_simp
 refine hK _ _ ⟨bW (by simp) (fun e he=>?_),?_⟩
 ·have hm:=mem_listed he
  simp[go_sem, *] at hm
 clear hK K hI
 have hI:=h₁.alloc (.cells #[.int .i64 (ah:Nat)] 3)
 rw[h₁.1]
 clear h₁
 try simp only[Array.size_push]
 refine aE hI rfl (fun w₁ h₁=>?_)
 refine goes_oper_k rfl rfl (by decide) (fun K hK=>?_)
 go_simp
 refine hK _ _ ⟨bW (by simp) (fun e he=>?_),?_⟩
 ·have hm:=mem_listed he
  simp[go_sem, *] at hm
 clear hK K hI
 have hI:=h₁.alloc (.cells #[.int .i64 (tries:Nat)] 3)
 rw[h₁.1]
 clear h₁
 try simp only[Array.size_push]
 refine aE hI rfl (fun w₁ h₁=>?_)
 refine goes_oper_k rfl rfl (by decide) (fun K hK=>?_)
 go_simp
 refine hK _ _ ⟨bW (by simp) (fun e he=>?_),?_⟩
 ·have hm:=mem_listed he
  simp[go_sem, *] at hm
 clear hK K hI
 have hI:=h₁.alloc (.cells #[.func (.func 36) #[] #[.pointer (some ⟨b13,0,none⟩),.pointer (some ⟨b7,0,none⟩)]] 74)
 rw[h₁.1]
 clear h₁
 try simp only[Array.size_push]
 refine aE hI rfl (fun w₁ h₁=>?_)
 refine goes_oper_k rfl rfl (by decide) (fun K hK=>?_)
 go_simp
 refine hK _ _ ⟨bW (by simp) (fun e he=>?_),?_⟩
 ·have hm:=mem_listed he
  simp[go_sem, *] at hm
 clear hK K hI
 have hI:=h₁.alloc (.cells (ints 28 fun _=>0) 43)
 rw[h₁.1]
 clear h₁
 try simp only[Array.size_push]
 repeat (refine aE hI rfl (fun w₁ h₁=>?_);walk_rw;refine ⟨aQ _,?_⟩;clear hI;have hI:=h₁;clear h₁)
 refine aE hI rfl (fun w₁ h₁=>?_)
 refine goes_oper_k rfl rfl (by decide) (fun K hK=>?_)
 go_simp
 rw[if_neg (by rw[af];decide)]
 go_simp
 rw[yW]
 refine hK _ _ ⟨bW (by simp) (fun e he=>?_),?_⟩
 ·have hm:=mem_listed he
  simp[go_sem,af, *] at hm
 clear hK K hI
 have hI:=h₁
 clear h₁
 refine aE hI rfl (fun w₁ h₁=>?_)
 refine goes_oper_k rfl rfl (by decide) (fun K hK=>?_)
 go_simp
 rw[if_neg (by simp[af]),af,zl]
 go_simp
 refine hK _ _ ⟨bW (by simp) (fun e he=>?_),?_⟩
 ·have hm:=mem_listed he
  simp[go_sem,af, *] at hm
 clear hK K hI
 have hI:=h₁
 clear h₁
 refine aE hI rfl (fun w₁ h₁=>?_)
 refine goes_oper_k rfl rfl (by decide) (fun K hK=>?_)
 go_simp
 refine hK _ _ ⟨bW (by simp) (fun e he=>?_),?_⟩
 ·have hm:=mem_listed he
  simp[go_sem, *] at hm
 clear hK K hI
 have hI:=h₁.alloc (.cells (#[.int .i32 0,.int .u32 0]++ints 28 fun _=>0) 103)
 rw[h₁.1]
 clear h₁
 try simp only[Array.size_push]
 refine aE hI rfl (fun w₁ h₁=>?_)
 have hrw:w₁.heap[H.size+4]? = some (.cells (#[.int .i32 0,.int .u32 0]++ints 28 fun _=>0) 103 (0,0)):=by rw[h₁.1,Array.getElem?_push,if_pos (by simp)]
 have hbl:H.size+4<w₁.heap.size:=by rw[h₁.1];simp
 refine dF (fd:=H.size+4) (o2:=0) (A:=bdZ) rfl rfl (by k_ne) rfl rfl rfl rfl (by rw[jD];exact rN) Ac hrw (by rw[jD];simp[af]) (fun es hes=>⟨bW (by simp) (fun e he=>?_),?_⟩)
 ·obtain ⟨j,_,rfl⟩:=hes e he
  exact ew (by simpa using hbl) (hSn 4 (by omega)) (show H.size+4≠H.size+40 by omega)
 clear hI hrw hbl
 rw[vp (by simp[af])]
 have hI:=Bo (q:=H.size+4) (B:=bdZ) h₁ (by simp)
 clear h₁
 repeat (refine aE hI rfl (fun w₁ h₁=>?_);walk_rw;refine ⟨aQ _,?_⟩;clear hI;have hI:=h₁;clear h₁)
 refine aE hI rfl (fun w₁ h₁=>?_)
 refine goes_oper_k rfl rfl (by decide) (fun K hK=>?_)
 go_simp
 refine hK _ _ ⟨bW (by simp) (fun e he=>?_),?_⟩
 ·have hm:=mem_listed he
  simp[go_sem, *] at hm
 clear hK K hI
 have hI:=h₁.alloc (.cells #[.int .u64 0,.int .u32 0] 91)
 rw[h₁.1]
 clear h₁
 try simp only[Array.size_push]
 repeat (refine aE hI rfl (fun w₁ h₁=>?_);walk_rw;refine ⟨aQ _,?_⟩;clear hI;have hI:=h₁;clear h₁)
 refine aE hI rfl (fun w₁ h₁=>?_)
 refine goes_oper_k rfl rfl (by decide) (fun K hK=>?_)
 have hC:w₁.cell? ⟨H.size,0,none⟩=some (.int .i64 (ah:Nat)):=fJ (T:=3) (by
  rw[h₁.1]
  simp only[Array.getElem?_push,Array.size_push]
  rw[if_neg (by omega),if_neg (by omega),if_neg (by omega),if_neg (by omega),if_neg (by omega),if_pos trivial])
 have hbl:H.size<w₁.heap.size:=by rw[h₁.1];simp;omega
 go_simp
 refine hK _ _ ⟨bW (by simp) (fun e he=>?_),?_⟩
 ·have hm:=mem_listed he
  simp[go_sem,hC] at hm
  subst hm
  exact ew hbl (by simpa using hSn 0 (by omega)) (show H.size≠H.size+40 by omega)
 clear hK K hI hC hbl
 have hI:=h₁
 clear h₁
 refine Goes.stop fun w₂ h₂=>?_
 obtain ⟨d,rfl⟩:=h₂
 exact ⟨fun i=>([undef,undef,undef,undef,undef,undef,undef,undef,undef,undef,.agg (ints 28 fZ),.agg bdZ]:List Value).getD i undef,rfl,hI⟩
end Cs
namespace Cs
open Go.Conc Go.RowKit Go.Conc.Lib Go.ConcR.Gen Go.ConcN.Gen
open Go.ConcR (KK WgAt wgBlock stA smA rd wr mk DC0)
open Go.ConcN (st_flag st_waiters)
variable {L:WgLink} {P:Program} {Wg n:Nat}
def OnK (P:Program) (Kw:World→Prop) (Stp:Goroutine→Prop) (g:Goroutine):Prop:=g.status=.running∧∀w,Kw w→∃m,Goes P true (fun _ w=>Kw w) DC0 (fun g _=>g.status=.running∧Stp g) m g w
theorem mo {Kw:World→Prop} {Stp:Goroutine→Prop} {g:Goroutine} (m:Nat) (hs:g.status=.running) (h:∀w,Kw w→Goes P true (fun _ w=>Kw w) DC0 (fun g _=>g.status=.running∧Stp g) m g w):OnK P Kw Stp g:=⟨hs,fun w hw=>⟨m,h w hw⟩⟩
def Wk (tW:TypeId) (Wg:Nat) (st:Int) (w:World):Prop:=WgAt tW Wg w st 0
theorem aj {tW:TypeId} {st:Int} {w w₁:World} (_:Wk tW Wg st w) (r:Wk tW Wg st w₁):Wk tW Wg st w₁:=r
section
variable (P:Program) (tW:TypeId) (Wg:Nat) (S:Int) (Jn:Goroutine→Prop)
def aEn (g:Goroutine):Prop:=isG g∧∃g',(∀w,stepG P true g w=.go g' w #[mk .enable])∧OnK P (Wk tW Wg S) Jn g'
def aRd (g:Goroutine):Prop:=isG g∧∃g',(∀w,Wk tW Wg S w→stepG P true g w=.go g' w #[mk (.read (smA Wg))])∧OnK P (Wk tW Wg S) (aEn P tW Wg S Jn) g'
def aAt (g:Goroutine):Prop:=isG g∧∃g',(∀w,Wk tW Wg 0 w→stepG P true g w=.go g' (w.setCell (stA Wg) (.int .u64 S)) #[rd (stA Wg),wr (stA Wg)])∧OnK P (Wk tW Wg S) (aRd P tW Wg S Jn) g'
def aDi (g:Goroutine):Prop:=isG g∧∃g',(∀w,stepG P true g w=.go g' w #[mk .disable])∧OnK P (Wk tW Wg 0) (aAt P tW Wg S Jn) g'
end
section
variable {b₀:Frame} {a₀:Act} {ops₀:Array Oper} {i₀:Nat} {rest₀:List Nat} {k₀:List Item} {cs:List Frame} {mT:Nat} {Jn:Goroutine→Prop}
set_option maxRecDepth 100000 in
set_option maxHeartbeats 8000000 in
theorem vV {S:Int} (H:WgLib P L) (hn:1≤n∧n≤16) (hS:S=(n:Int)*KK) (hT:∀w,Wk L.tWg Wg S w→Goes P true (fun _ w=>Wk L.tWg Wg S w) DC0 (fun g _=>g.status=.running∧Jn g) mT (G (b₀.at (a₀.put ((ops₀[i₀]?).bind (·.dst)) (.tuple #[])) (.inRegion ops₀ rest₀ :: k₀)) cs) w) :
  ∀w,Wk L.tWg Wg 0 w→Goes P true (fun _ w=>Wk L.tWg Wg 0 w) DC0 (fun g _=>g.status=.running∧aDi P L.tWg Wg S Jn g) 20 (G ((base L.add).at ⟨#[.pointer (some ⟨Wg,0,none⟩),.int .i64 (n:Nat),undef,undef,undef,undef,undef,undef,undef,undef,undef,undef,undef,undef,undef,undef,undef,undef,undef,undef,undef,undef,undef,undef,undef,undef,undef,undef,undef,undef,undef,undef,undef,undef,undef,undef,undef,undef,undef,undef,undef,undef,undef,undef,undef,undef,undef,undef,undef,undef,undef,undef,undef,undef,undef,undef,undef,undef,undef,undef,undef,undef,undef,undef,undef,undef,undef,undef,undef,undef,undef,undef,undef,undef,undef,undef,undef,undef,undef,undef,undef,undef,undef,undef,undef,undef,undef,undef,undef,undef,undef,undef,undef,undef,undef,undef,undef,undef,undef,undef,undef,undef,undef,undef,undef,undef,undef,undef,undef,undef,undef,undef,undef,undef,undef,undef,undef],[]⟩ [.code (body_add L)]) (b₀.at a₀ (.inRegion ops₀ (i₀ :: rest₀) :: k₀) :: cs)) w:=by
 intro w hK
 lib_facts
 have e0:(n:Int) % 18446744073709551616*4294967296 % 18446744073709551616=S:=by rw[hS];simp only[KK];omega
 have a1:S / 4294967296=(n:Int):=by rw[hS];simp only[KK];omega
 have b1:bits .and .u64 S 2147483648=0:=by rw[hS];have:=st_flag n 0 (by omega) (by omega);simpa [KK] using this
 have b2:bits .and .u64 S 2147483647=0:=by rw[hS];have:=st_waiters n 0 (by omega) (by omega);simpa [KK] using this
 have eS:IntKind.u64.wrap (0+S)=S:=by rw[IntKind.wrap_u64,hS];simp only[KK];omega
 have c1:IntKind.i32.wrap (n:Int)=(n:Int):=by rw[IntKind.wrap_i32];omega
 have q4:decide (0<(n:Int))=true:=decide_eq_true (by omega)
 have q4':decide (0<n)=true:=decide_eq_true (by omega)
 clear hS
 have q1:decide ((n:Int)<0)=false:=decide_eq_false (by omega)
 simp only[body_add,addFn,Option.getD_some]
 repeat (first
  | u_c stepG_seq aj hK
  | u_c stepG_region_end aj hK
  | u_reg aj hK
  | u_cond true aj hK
  | u_cond false aj hK
  | u_c stepG_skip aj hK
  | u_c stepG_block aj hK
  | u_c stepG_loop aj hK
  | u_c stepG_inBlock aj hK
  | u_c stepG_inLoop aj hK
  | (rw[aG];u_skip aj hK)
  | (rw[aG];u_op aj hK))
 refine Goes.stop (fun w₁ h₁=>?_)
 clear h₁ hK
 refine ⟨rfl,⟨_,_,rfl⟩,_,fun w=>stepG_mark0 .disable (by simp) rfl rfl (by k_ne) rfl H.f_disable (x_disable_n L) (x_disable_b L) (x_disable_x L) (x_disable_f L),mo 60 rfl fun w hK=>?_⟩
 walk_nrm
 u_c stepG_region_end aj hK
 u_reg aj hK
 u_defer aj hK
 repeat (first
  | u_c stepG_seq aj hK
  | u_c stepG_region_end aj hK
  | u_reg aj hK
  | u_cond true aj hK
  | u_cond false aj hK
  | u_c stepG_skip aj hK
  | u_c stepG_block aj hK
  | u_c stepG_loop aj hK
  | u_c stepG_inBlock aj hK
  | u_c stepG_inLoop aj hK
  | (rw[aG];u_skip aj hK)
  | (rw[aG];u_op aj hK))
 u_bub aj hK
 repeat (first
  | u_c stepG_seq aj hK
  | u_c stepG_region_end aj hK
  | u_reg aj hK
  | u_cond true aj hK
  | u_cond false aj hK
  | u_c stepG_skip aj hK
  | u_c stepG_block aj hK
  | u_c stepG_loop aj hK
  | u_c stepG_inBlock aj hK
  | u_c stepG_inLoop aj hK
  | (rw[aG];u_skip aj hK)
  | (rw[aG];u_op aj hK))
 u_call H.f_uAdd (nm_uAdd L) uAddFn aj hK
 repeat (first
  | u_c stepG_seq aj hK
  | u_c stepG_region_end aj hK
  | u_reg aj hK
  | u_cond true aj hK
  | u_cond false aj hK
  | u_c stepG_skip aj hK
  | u_c stepG_block aj hK
  | u_c stepG_loop aj hK
  | u_c stepG_inBlock aj hK
  | u_c stepG_inLoop aj hK
  | (rw[aG];u_skip aj hK)
  | (rw[aG];u_op aj hK))
 refine Goes.stop (fun w₁ h₁=>?_)
 clear h₁ hK
 refine ⟨rfl,⟨_,_,rfl⟩,_,fun w hw=>(stepG_add_atomic rfl rfl (by k_ne) rfl H.f_addU64 (x_addU64_n L) (x_addU64_b L) (x_addU64_x L) .u64 (x_addU64_f L) rfl rfl (WgAt.cellSt hw) (WgAt.thaw hw 0)).trans (by rw[eS];rfl),mo 120 rfl fun w hK=>?_⟩
 clear eS e0
 walk_nrm
 repeat (first
  | u_c stepG_seq aj hK
  | u_c stepG_region_end aj hK
  | u_reg aj hK
  | u_cond true aj hK
  | u_cond false aj hK
  | u_c stepG_skip aj hK
  | u_c stepG_block aj hK
  | u_c stepG_loop aj hK
  | u_c stepG_inBlock aj hK
  | u_c stepG_inLoop aj hK
  | (rw[aG];u_skip aj hK)
  | (rw[aG];u_op aj hK))
 u_c stepG_ret' aj hK
 u_leave1 H.f_uAdd aj hK
 repeat (first
  | u_c stepG_seq aj hK
  | u_c stepG_region_end aj hK
  | u_reg aj hK
  | u_cond true aj hK
  | u_cond false aj hK
  | u_c stepG_skip aj hK
  | u_c stepG_block aj hK
  | u_c stepG_loop aj hK
  | u_c stepG_inBlock aj hK
  | u_c stepG_inLoop aj hK
  | (rw[aG];u_skip aj hK)
  | (rw[aG];u_op aj hK))
 u_conv H.underlying_tPU32 H.room_tU32 (show World.cell? _ ⟨Wg,1,none⟩=some _ from WgAt.cellSm hK) aj hK
 refine Goes.stop (fun w₁ h₁=>?_)
 clear h₁ hK
 refine ⟨rfl,⟨_,_,rfl⟩,_,fun w hw=>stepG_markAt .read (by simp) rfl rfl (by k_ne) rfl H.f_raceRead (x_raceRead_n L) (x_raceRead_b L) (x_raceRead_x L) (x_raceRead_f L) (ad:=⟨Wg,1,none⟩) (by simp[Act.eval]),mo 80 rfl fun w hK=>?_⟩
 walk_nrm
 repeat (first
  | u_c stepG_seq aj hK
  | u_c stepG_region_end aj hK
  | u_reg aj hK
  | u_cond true aj hK
  | u_cond false aj hK
  | u_c stepG_skip aj hK
  | u_c stepG_block aj hK
  | u_c stepG_loop aj hK
  | u_c stepG_inBlock aj hK
  | u_c stepG_inLoop aj hK
  | (rw[aG];u_skip aj hK)
  | (rw[aG];u_op aj hK))
 u_c stepG_ret' aj hK
 refine Goes.stop (fun w₁ h₁=>?_)
 clear h₁ hK
 refine ⟨rfl,⟨_,_,rfl⟩,_,fun w=>stepG_unwind_entry (v:=.tuple #[]) (evs:=#[mk .enable]) rfl H.f_enable (x_enable_n L) (x_enable_b L) (x_enable_x L) (x_enable_f L) (by simp[Extern.Race.none_]) (by simp[mk]) (by simp[mk]),mo (mT+1) rfl fun w hK=>?_⟩
 u_leave0 H.f_add aj hK
 exact hT _ hK
end
end Cs
end Go.Proofs.Ytpdemelchhkfaaa
