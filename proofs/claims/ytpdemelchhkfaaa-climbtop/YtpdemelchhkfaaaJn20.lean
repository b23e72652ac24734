import Derived.Test.YtpdemelchhkfaaaJn19
namespace Go.Proofs.Ytpdemelchhkfaaa
namespace Cs
open Go.Conc Go.RowKit Go.Conc.Lib Go.ConcR.Gen Go.ConcN.Gen
open Go.ConcR (KK WgAt wgBlock stA smA rd wr mk DC0)
open Go.ConcM (OsLater)
theorem c9 : (Try.f88.name == "runtime.NumGoroutine") = false := by kernel_rfl
theorem cX:Try.f88.body.isNone=true:=by kernel_rfl
theorem dc:Extern.findNext Try.f88=none:=by kernel_rfl
theorem c8:Extern.find Try.f88=some (Extern.Atomic.casT (.int .i32)):=by kernel_rfl
theorem ki : (Try.f90.name == "runtime.NumGoroutine") = false := by kernel_rfl
theorem kr:Try.f90.body.isNone=true:=by kernel_rfl
theorem j4:Extern.findNext Try.f90=none:=by kernel_rfl
theorem kD:Extern.find Try.f90=some (Extern.Atomic.update (Op.intArith .add) .i32 true):=by kernel_rfl
theorem iz : (Try.f92.name == "runtime.NumGoroutine") = false := by kernel_rfl
theorem iI:Try.f92.body.isNone=true:=by kernel_rfl
theorem iK:Extern.findNext Try.f92=none:=by kernel_rfl
theorem iA:Extern.find Try.f92=some (Extern.Sync.canSpin):=by kernel_rfl
theorem jF : (Try.f93.name == "runtime.NumGoroutine") = false := by kernel_rfl
theorem jX:Try.f93.body.isNone=true:=by kernel_rfl
theorem jQ:Extern.findNext Try.f93=none:=by kernel_rfl
theorem jH:Extern.find Try.f93=some (fun _=>pure (.tuple #[])):=by kernel_rfl
theorem uf : (Try.f95.name == "runtime.NumGoroutine") = false := by kernel_rfl
theorem ug:Try.f95.body.isNone=true:=by kernel_rfl
theorem tA:Extern.findNext Try.f95=none:=by kernel_rfl
theorem tC:Extern.find Try.f95=some (Extern.OsHooks.nano):=by kernel_rfl
theorem oS : (Try.f96.name == "runtime.NumGoroutine") = false := by kernel_rfl
theorem oC:Try.f96.body.isNone=true:=by kernel_rfl
theorem o8:Extern.findNext Try.f96=none:=by kernel_rfl
theorem ou:Extern.find Try.f96=some (Extern.Sync.semacquire):=by kernel_rfl
theorem uq : (Try.f98.name == "runtime.NumGoroutine") = false := by kernel_rfl
theorem lE:Try.f98.body.isNone=true:=by kernel_rfl
theorem tu:Extern.findNext Try.f98=none:=by kernel_rfl
theorem tZ:Extern.find Try.f98=some (Extern.Sync.semrelease):=by kernel_rfl
theorem uv:Try.f95.norace=true:=by kernel_rfl
theorem Cx : (Try.f79.name == "runtime.NumGoroutine") = false := by kernel_rfl
theorem CF : (Try.f86.name == "runtime.NumGoroutine") = false := by kernel_rfl
theorem Dp : (Try.f89.name == "runtime.NumGoroutine") = false := by kernel_rfl
theorem xz:(Try.prog.funcs[(base 89).fn]?).any (·.norace)=true:=by kernel_rfl
section
variable {main:Bool} {b:Frame} {a:Act} {kk:List Item} {cs:List Frame} {w:World} {ops:Array Oper} {i:Nat} {rest:List Nat} {o:Oper}
theorem cC {x:Operand} (ho:ops[i]? = some o) (hw:Region.wanted o (yielded ops a.tmps)=true) (hk:b.kind≠.early) (hop:o.op=.load 21 x) {ad:Addr} {v:Int} (hx:a.eval x=.pointer (some ad)) (hc:w.cell? ad=some (.int .i32 v)) (hq:(Try.prog.funcs[b.fn]?).any (·.norace)=true) :
  stepG Try.prog main (G (b.at a (.inRegion ops (i :: rest) :: kk)) cs) w=.go (G (b.at (a.put o.dst (.int .i32 v)) (.inRegion ops rest :: kk)) cs) w #[]:=by
 have hr:(execOp a.eval o).run Try.prog w=.ok (.value (.int .i32 v)) w:=by
  unfold execOp
  simp only[hop,hx]
  simp[go_sem,hc]
 have he:(execOp a.eval o).events Try.prog w #[]=#[⟨.cell ad,false,false⟩]:=by
  unfold execOp
  simp only[hop,hx]
  simp[go_sem,hc]
 rw[stepG_value ho hw hk hr]
 unfold listed
 rw[he,seen_def,hq]
 simp[seenStep]
end
section
variable {c:Cst} {tW:TypeId} {w:World} {W:Wd} {m:Nat}
theorem bC.st (hk:Ok3 c tW w) (h2:2≤c.K) (h:muC c w W m) (W':Wd):bC c w (w.setCell ⟨c.Fd,0,none⟩ (.int .i32 W'.enc)) W' m:=by
 obtain ⟨cs,e,es⟩:=hk.ok.fd
 have hm:=h.2
 rw[iN e] at hm
 have e':(w.setCell ⟨c.Fd,0,none⟩ (.int .i32 W'.enc)).heap[c.Fd]? = some (.cells (cs.setIfInBounds 0 (.int .i32 W'.enc)) c.TF (0,0)):=by
  unfold World.setCell
  simp only[Array.getElem?_modify,e]
  rfl
 refine ⟨fun b hb=>heap_setCell_other w _ b _ (by exact hb),World.size_setCell w _ _,fun cs1 e1=>?_,⟨?_,?_⟩,.refl _,rfl⟩
 ·rw[e] at e1
  cases e1
  exact ⟨_,e',by simp,fun i hi=>by rw[Array.getElem?_setIfInBounds_ne (by omega)]⟩
 ·rw[iN e']
  rw[Array.getElem?_setIfInBounds_self,if_pos (by omega)]
 ·rw[iN e']
  rw[Array.getElem?_setIfInBounds_ne (by omega)]
  exact hm
theorem bC.sm (hk:Ok3 c tW w) (h2:2≤c.K) (h:muC c w W m) (m':Nat):bC c w (w.setCell ⟨c.Fd,1,none⟩ (.int .u32 (m':Nat))) W m':=by
 obtain ⟨cs,e,es⟩:=hk.ok.fd
 have hm:=h.1
 rw[iN e] at hm
 have e':(w.setCell ⟨c.Fd,1,none⟩ (.int .u32 (m':Nat))).heap[c.Fd]? = some (.cells (cs.setIfInBounds 1 (.int .u32 (m':Nat))) c.TF (0,0)):=by
  unfold World.setCell
  simp only[Array.getElem?_modify,e]
  rfl
 refine ⟨fun b hb=>heap_setCell_other w _ b _ (by exact hb),World.size_setCell w _ _,fun cs1 e1=>?_,⟨?_,?_⟩,.refl _,rfl⟩
 ·rw[e] at e1
  cases e1
  exact ⟨_,e',by simp,fun i hi=>by rw[Array.getElem?_setIfInBounds_ne (by omega)]⟩
 ·rw[iN e']
  rw[Array.getElem?_setIfInBounds_ne (by omega)]
  exact hm
 ·rw[iN e']
  rw[Array.getElem?_setIfInBounds_self,if_pos (by omega)]
theorem bC.later (h:muC c w W m):bC c w w.later W m:=⟨fun _ _=>rfl,rfl,fun cs e=>⟨cs,e,rfl,fun _ _=>rfl⟩,h,⟨_,rfl⟩,rfl⟩
theorem bC.asked (h:muC c w W m):bC c w w.asked W m:=⟨fun _ _=>rfl,rfl,fun cs e=>⟨cs,e,rfl,fun _ _=>rfl⟩,h,.refl _,rfl⟩
theorem iO (o:Wd) (a s:Bool) (it:Nat):mM (.head o a s it)=1:=by unfold Mx.head;split <;> rfl
end
noncomputable def bh:Code:=match Try.f89.body.getD .skip with | .seq _ (.seq _ (.seq _ (.seq _ (.seq _ (.seq (.block _ (.loop c)) _)))))=>c | _=>.skip
noncomputable def cy:Code:=match Try.f89.body.getD .skip with | .seq _ (.seq _ (.seq _ (.seq _ (.seq _ (.seq _ c)))))=>c | _=>.skip
def kY (o:Wd) (a s:Bool) (it:Nat):Prop:=o.ok∧o.q≤12000∧(a=true→o.w=1∧o.s=0)∧(a=false→s=false)∧it≤4
section
variable (c:Cst) (b₁:Frame) (a₁:Act) (ops₁:Array Oper) (i₁:Nat) (rest₁:List Nat) (k₁:List Item) (cs₁:List Frame)
def kHd (o:Wd) (a s:Bool) (it:Nat) (g:Goroutine):Prop:=kY o a s it∧∃(ws:Int) (v:Nat→Value),g=G ((base 89).at ⟨#[.pointer (some ⟨c.Fd,0,none⟩),v 1,.int .i64 ws,.bool s,.bool a,.int .i64 (it:Nat),.int .i32 o.enc,v 7,v 8,v 9,v 10,v 11,v 12,v 13,v 14,v 15,v 16,v 17,v 18,v 19,v 20,v 21,v 22,v 23,v 24,v 25,v 26,v 27,v 28,v 29,v 30,v 31,v 32,v 33,v 34,v 35,v 36,v 37,v 38,v 39,v 40,v 41,v 42,v 43,v 44,v 45,v 46,v 47,v 48,v 49,v 50,v 51,v 52,v 53,v 54,v 55,v 56,v 57,v 58,v 59,v 60,v 61,v 62,v 63,v 64,v 65,v 66,v 67,v 68,v 69,v 70,v 71,v 72,v 73,v 74,v 75,v 76,v 77,v 78,v 79,v 80,v 81,v 82,v 83,v 84,v 85,v 86,v 87,v 88,v 89,v 90,v 91,v 92,v 93,v 94,v 95,v 96,v 97,v 98,v 99,v 100,v 101,v 102,v 103,v 104,v 105,v 106,v 107,v 108,v 109,v 110,v 111,v 112,v 113,v 114,v 115,v 116,v 117,v 118,v 119,v 120,v 121,v 122,v 123,v 124,v 125,v 126,v 127,v 128,v 129,v 130,v 131,v 132,v 133,v 134,v 135,v 136,v 137,v 138],[]⟩ [.code bh,.inLoop bh,.inBlock 0,.code cy]) (b₁.at a₁ (.inRegion ops₁ (i₁ :: rest₁) :: k₁) :: cs₁)
end
theorem bU (l:Array Value) (n:Nat) (h:l.size=n):l=((List.range n).map fun i=>l.getD i undef).toArray:=by
 subst h
 refine Array.ext_getElem? fun i=>?_
 by_cases hi:i<l.size
 ·simp[hi]
 ·simp[hi]
section
variable {c:Cst} {b₁:Frame} {a₁:Act} {ops₁:Array Oper} {i₁:Nat} {rest₁:List Nat} {k₁:List Item} {cs₁:List Frame}
set_option maxRecDepth 100000 in
theorem ox {o:Wd} {a s:Bool} {it:Nat} (ho:kY o a s it) {ws:Int} (l:Array Value) (hl:l.size=139) (h0:l[0]? = some (.pointer (some ⟨c.Fd,0,none⟩))) (h2:l[2]? = some (.int .i64 ws)) (h3:l[3]? = some (.bool s)) (h4:l[4]? = some (.bool a)) (h5:l[5]? = some (.int .i64 (it:Nat))) (h6:l[6]? = some (.int .i32 o.enc)) :
  kHd c b₁ a₁ ops₁ i₁ rest₁ k₁ cs₁ o a s it (G ((base 89).at ⟨l,[]⟩ [.code bh,.inLoop bh,.inBlock 0,.code cy]) (b₁.at a₁ (.inRegion ops₁ (i₁ :: rest₁) :: k₁) :: cs₁)):=by
 have e:=bU l 139 hl
 have f:∀(i:Nat) (x:Value),l[i]? = some x→l.getD i undef=x:=fun i x hx=>by simp[Array.getD_eq_getD_getElem?,hx]
 refine ⟨ho,ws,fun i=>l.getD i undef,?_⟩
 rw[←f 0 _ h0,←f 2 _ h2,←f 3 _ h3,←f 4 _ h4,←f 5 _ h5,←f 6 _ h6]
 generalize hv:(fun i=>l.getD i undef)=v at e
 have fv:∀i,l.getD i undef=v i:=fun i=>by rw[←hv]
 simp only[fv]
 rw[e]
 rfl
end
end Cs
namespace Cs
open Go.Conc Go.RowKit Go.Conc.Lib Go.ConcR.Gen Go.ConcN.Gen
open Go.ConcR (KK WgAt wgBlock stA smA rd wr mk DC0)
open Go.ConcM (OsLater goes_pad)
theorem tU {c:Cst} {q:Nat} {w:World} {es:Array Event} (h:∀e ∈ es,False):DB c q w w es:=⟨fun _ _=>rfl,rfl,fun cs e=>⟨cs,e,rfl,rfl,rfl⟩,rfl,rfl,fun e he=>(h e he).elim⟩
theorem fD {P:Program} {c:Cst} {tW tX:TypeId} {R:Nat→Array Value} {k q:Nat} {Stp:Goroutine→World→Prop} {m:Nat}:∀{n:Nat} {g:Goroutine} {w:World},RB c tW tX R k q w w→Goes P false (RB c tW tX R k q) DC0 (fun g w=>Goes P false (RB c tW tX R k q) (DB c q) Stp m g w) n g w→Goes P false (RB c tW tX R k q) (DB c q) Stp (n+m) g w
 | 0,g,w,hr,h=>by rw[Nat.zero_add];exact h w hr
 | n+1,g,w,hr,h=>by
  rcases h with h | ⟨hs,h⟩
  ·exact (h w hr).mono (by omega)
  ·rw[show n+1+m=(n+m)+1 by omega]
   refine .inr ⟨hs,fun w₁ h₁=>?_⟩
   have:=h w₁ h₁
   revert this
   cases stepG P false g w₁ <;> simp only[GStep.goes,imp_self]
   intro ⟨d,x⟩
   obtain ⟨rfl,rfl⟩:=d
   exact ⟨tU fun e he=>by simp at he,fD ⟨h₁.1,h₁.2.1,fun _ _=>rfl⟩ x⟩
theorem Bg:Try.prog.underlying 137=some (.pointer 99):=by kernel_rfl
theorem Cj:(Try.prog.info? 99).map (fun i=>decide (i.size=0))=some false:=by kernel_rfl
theorem mO {c:Cst} {tW:TypeId} {w:World} (h:Ok3 c tW w):∃v:Value,w.cell? ⟨c.Fd,0,none⟩=some v:=by
 obtain ⟨W,m,k,_⟩:=h.mu
 exact ⟨_,k⟩
noncomputable def tR:Code:=Try.f79.body.getD .skip
noncomputable def Au:Code:=Try.f86.body.getD .skip
noncomputable def kO4:Array Oper:=match Au with | .seq _ (.seq _ (.region _ o _))=>o | _=>#[]
noncomputable def kOW:Array Oper:=match tR with | .region _ o _=>o | _=>#[]
def kA4 (c:Cst):Act:=⟨#[.pointer (some ⟨c.Fd,0,none⟩),undef,.tuple #[],.pointer (some ⟨c.Fd,0,none⟩),.pointer (some ⟨c.Fd,0,none⟩),.pointer (some ⟨c.Fd,0,none⟩),.bool false,undef,undef,undef,undef,.pointer (some ⟨c.Fd,0,none⟩),undef],[]⟩
noncomputable def kCs (c:Cst) (b₀:Frame) (a₀:Act) (ops₀:Array Oper) (i₀:Nat) (rest₀:List Nat) (k₀:List Item) (cs:List Frame):List Frame :=
 (base 79).at ⟨#[.pointer (some ⟨c.Fd,0,none⟩),undef,.pointer (some ⟨c.Fd,0,none⟩),.pointer (some ⟨c.Fd,0,none⟩),.pointer (some ⟨c.Fd,0,none⟩),undef],[]⟩ [.inRegion kOW [3]] :: b₀.at a₀ (.inRegion ops₀ (i₀ :: rest₀) :: k₀) :: cs
noncomputable def D6 (c:Cst) (b₀:Frame) (a₀:Act) (ops₀:Array Oper) (i₀:Nat) (rest₀:List Nat) (k₀:List Item) (cs:List Frame):Wd→Bool→Bool→Nat→Goroutine→Prop :=
 kHd c (base 86) (kA4 c) kO4 1 [] [] (kCs c b₀ a₀ ops₀ i₀ rest₀ k₀ cs)
def dh (P:Program) (c:Cst) (tW tX:TypeId) (R:Nat→Array Value) {β:Type} (eB:β→Nat→Value) (up:β→Nat→β) (k q:Nat) (Ur:Goroutine→Prop) (g:Goroutine):Prop :=
 ∃m,∀b w,Ok3 c tW w→BxR R tX k q w→bdC c w (eB b)→fu P c tW tX R k q (eB (up b k)) Ur m g w
def yLa (P:Program) (c:Cst) (tW:TypeId) (Aft:Goroutine→Prop) (g:Goroutine):Prop:=isG g∧∃g',(∀w,Ok3 c tW w→stepG P false g w=.go g' w #[mk (.acquire (gZ c))])∧Aft g'
section
variable {c:Cst} {tW tX:TypeId} {R:Nat→Array Value} {β:Type} {eB:β→Nat→Value} {up:β→Nat→β} {k q:Nat} {Ur:Goroutine→Prop}
theorem bM {b:Nat→Value} {w w₁:World} (h:Ok3 c tW w∧BxR R tX k q w∧bdC c w b) (r:RB c tW tX R k q w w₁):Ok3 c tW w₁∧BxR R tX k q w₁∧bdC c w₁ b :=
 ⟨r.1,r.2.1,fun i h2 hi=>by rw[r.2.2 i h2];exact h.2.2 i h2 hi⟩
variable {b₀:Frame} {a₀:Act} {ops₀:Array Oper} {i₀:Nat} {rest₀:List Nat} {k₀:List Item} {cs:List Frame}
set_option maxRecDepth 100000 in
set_option maxHeartbeats 8000000 in
theorem y8 (hK:2≤c.K) (hT:dh Try.prog c tW tX R eB up k q Ur (G (b₀.at (a₀.put ((ops₀[i₀]?).bind (·.dst)) (.tuple #[])) (.inRegion ops₀ rest₀ :: k₀)) cs)) :
  ∀w,Ok3 c tW w→Goes Try.prog false (fun _ w=>Ok3 c tW w) DC0 (fun g _=>g.status=.running∧yLd Try.prog c tW (yLa Try.prog c tW (dh Try.prog c tW tX R eB up k q Ur)) ((D6 c b₀ a₀ ops₀ i₀ rest₀ k₀ cs)) g) 40 (G ((base 79).at ⟨#[.pointer (some ⟨c.Fd,0,none⟩),undef,undef,undef,undef,undef],[]⟩ [.code tR]) (b₀.at a₀ (.inRegion ops₀ (i₀ :: rest₀) :: k₀) :: cs)) w:=by
 intro w hF
 simp only[tR,Try.f79,Option.getD_some]
 repeat w_go aa
 u_call Try.func86 CF Try.f86 aa hF
 repeat w_go aa
 refine Goes.stop (fun w₁ h₁=>?_)
 clear h₁ hF
 refine ⟨rfl,⟨_,_,rfl⟩,fun w W m hk hm hsf hok hq hm1 _=>⟨_,W,m,_,w,_,.ld,stepG_mark0 .disable (by simp) rfl rfl (by k_ne) rfl eg.f_disable (x_disable_n wgL) (x_disable_b wgL) (x_disable_x wgL) (x_disable_f wgL),bC.same hm,fun e he=>by simp at he;subst he;exact .inr (.inl rfl),rfl,rfl,aO 40 rfl fun w hF=>?_⟩⟩
 clear hk hm hsf hok hq hm1
 walk_nrm
 repeat w_go aa
 refine Goes.stop (fun w₁ h₁=>?_)
 clear h₁ hF
 refine ⟨rfl,⟨_,_,rfl⟩,fun w W m hk hm hsf hok hq hm1 _=>?_⟩
 by_cases hW:W=⟨0,0,0,0⟩
 ·subst hW
  refine ⟨.le,⟨1,0,0,0⟩,m,_,_,_,.l0h,stepG_cas_hit rfl rfl (by k_ne) rfl Try.func88 c9 cX dc .i32 c8 rfl rfl rfl (show w.cell? _=some (.int .i32 0) from hm.1) (bq hk 0),bC.st hk hK hm ⟨1,0,0,0⟩,fun e he=>?_,rfl,.inl ⟨rfl,aO 40 rfl fun w hF=>?_⟩⟩
  ·simp at he
   rcases he with rfl | rfl
   ·exact .inl ⟨0,false,by omega,rfl⟩
   ·exact .inl ⟨0,true,by omega,rfl⟩
  clear hk hm hsf hok hq hm1
  walk_nrm
  repeat w_go aa
  refine Goes.stop (fun w₁ h₁=>?_)
  clear h₁ hF
  refine ⟨rfl,⟨_,_,rfl⟩,fun w W m hk hm hsf hok hq hm1 _=>⟨_,W,m,_,w,_,.le,stepG_mark0 .enable (by simp) rfl rfl (by k_ne) rfl eg.f_enable (x_enable_n wgL) (x_enable_b wgL) (x_enable_x wgL) (x_enable_f wgL),bC.same hm,fun e he=>by simp at he;subst he;exact .inr (.inr rfl),rfl,rfl,aO 40 rfl fun w hF=>?_⟩⟩
  clear hk hm hsf hok hq hm1
  walk_nrm
  repeat w_go aa
  m_convG Try.prog eg.underlying_tUP Bg Cj (mO hF).choose_spec aa hF
  refine Goes.stop (fun w₁ h₁=>?_)
  clear h₁ hF
  refine ⟨rfl,⟨_,_,rfl⟩,_,fun w _=>stepG_markAt .acquire (by simp) rfl rfl (by k_ne) rfl eg.f_acquire (x_acquire_n wgL) (x_acquire_b wgL) (x_acquire_x wgL) (x_acquire_f wgL) (by simp[Act.eval,gZ]),?_⟩
  obtain ⟨mT,hT'⟩:=hT
  refine ⟨20+mT,fun b w h1 h2 h3=>?_⟩
  have hF:=And.intro h1 (And.intro h2 h3)
  clear h1 h2 h3
  unfold fu
  refine fD ⟨hF.1,hF.2.1,fun _ _=>rfl⟩ ?_
  walk_nrm
  repeat w_go bM
  u_leave0 Try.func86 bM hF
  repeat w_go bM
  u_leave0 Try.func79 bM hF
  exact Goes.stop fun w₁ h₁=>by
   have hF:=bM hF h₁
   exact hT' b w₁ hF.1 hF.2.1 hF.2.2
 ·refine ⟨.r0,W,m,_,_,_,.l0m hW,stepG_cas_miss rfl rfl (by k_ne) rfl Try.func88 c9 cX dc .i32 c8 rfl rfl rfl hm.1 (bq hk 0) (fun e=>hW (gp hok ⟨by decide,by decide,by decide⟩ (e.trans rfl))),bC.same hm,fun e he=>?_,rfl,.inr ⟨rfl,aO 80 rfl fun w hF=>?_⟩⟩
  ·simp at he
   subst he
   exact .inl ⟨0,false,by omega,rfl⟩
  clear hk hm hsf hok hq hm1
  walk_nrm
  repeat w_go aa
  u_call Try.func89 Dp Try.f89 aa hF
  repeat w_go aa
  refine Goes.stop (fun w₁ h₁=>?_)
  clear h₁ hF
  refine ⟨rfl,⟨_,_,rfl⟩,fun w W m hk hm hsf hok hq hm1 _=>⟨_,W,m,_,w,_,.r0,cC rfl rfl (by k_ne) rfl rfl hm.1 xz,bC.same hm,fun e he=>by simp at he,(iO _ _ _ _).symm,W,false,false,0,rfl,aO 60 rfl fun w hF=>?_⟩⟩
  have ho:kY W false false 0:=⟨hok,hq,fun e=>(by cases e),fun _=>rfl,by omega⟩
  clear hk hm hsf hok hq hm1
  walk_nrm
  repeat w_but "code.loop" aa
  u_c stepG_loop aa hF
  refine Goes.stop (fun w₁ h₁=>⟨rfl,?_⟩)
  exact ox ho _ rfl rfl rfl rfl rfl rfl rfl
end
end Cs
namespace Cs
open Go.Conc Go.RowKit Go.Conc.Lib Go.ConcR.Gen Go.ConcN.Gen
open Go.ConcR (KK WgAt wgBlock stA smA rd wr mk DC0)
open Go.ConcM (OsLater goes_pad)
section
variable {c:Cst} {tW tX:TypeId} {R:Nat→Array Value} {β:Type} {eB:β→Nat→Value} {up:β→Nat→β} {k q:Nat} {Ur:Goroutine→Prop}
variable {b₀:Frame} {a₀:Act} {ops₀:Array Oper} {i₀:Nat} {rest₀:List Nat} {k₀:List Item} {cs:List Frame}
set_option maxRecDepth 100000 in
set_option maxHeartbeats 8000000 in
theorem wA (hT:dh Try.prog c tW tX R eB up k q Ur (G (b₀.at (a₀.put ((ops₀[i₀]?).bind (·.dst)) (.tuple #[])) (.inRegion ops₀ rest₀ :: k₀)) cs)) :
  dh Try.prog c tW tX R eB up k q Ur (G ((base 86).at ((kA4 c).put ((kO4[1]?).bind (·.dst)) (.tuple #[])) [.inRegion kO4 []]) (kCs c b₀ a₀ ops₀ i₀ rest₀ k₀ cs)):=by
 obtain ⟨mT,hT'⟩:=hT
 refine ⟨20+mT,fun b w h1 h2 h3=>?_⟩
 have hF:=And.intro h1 (And.intro h2 h3)
 clear h1 h2 h3
 unfold fu
 refine fD ⟨hF.1,hF.2.1,fun _ _=>rfl⟩ ?_
 simp only[kA4,kO4,kOW,kCs,Au,tR,Try.f86,Try.f79,Option.getD_some]
 walk_nrm
 repeat w_go bM
 u_leave0 Try.func86 bM hF
 repeat w_go bM
 u_leave0 Try.func79 bM hF
 exact Goes.stop fun w₁ h₁=>by
  have hF:=bM hF h₁
  exact hT' b w₁ hF.1 hF.2.1 hF.2.2
end
section
variable (c:Cst) (b₁:Frame) (a₁:Act) (ops₁:Array Oper) (i₁:Nat) (rest₁:List Nat) (k₁:List Item) (cs₁:List Frame)
def kLe (g:Goroutine):Prop:=∃v:Nat→Value,g=G ((base 89).at ⟨#[.pointer (some ⟨c.Fd,0,none⟩),v 1,v 2,v 3,v 4,v 5,v 6,v 7,v 8,v 9,v 10,v 11,v 12,v 13,v 14,v 15,v 16,v 17,v 18,v 19,v 20,v 21,v 22,v 23,v 24,v 25,v 26,v 27,v 28,v 29,v 30,v 31,v 32,v 33,v 34,v 35,v 36,v 37,v 38,v 39,v 40,v 41,v 42,v 43,v 44,v 45,v 46,v 47,v 48,v 49,v 50,v 51,v 52,v 53,v 54,v 55,v 56,v 57,v 58,v 59,v 60,v 61,v 62,v 63,v 64,v 65,v 66,v 67,v 68,v 69,v 70,v 71,v 72,v 73,v 74,v 75,v 76,v 77,v 78,v 79,v 80,v 81,v 82,v 83,v 84,v 85,v 86,v 87,v 88,v 89,v 90,v 91,v 92,v 93,v 94,v 95,v 96,v 97,v 98,v 99,v 100,v 101,v 102,v 103,v 104,v 105,v 106,v 107,v 108,v 109,v 110,v 111,v 112,v 113,v 114,v 115,v 116,v 117,v 118,v 119,v 120,v 121,v 122,v 123,v 124,v 125,v 126,v 127,v 128,v 129,v 130,v 131,v 132,v 133,v 134,v 135,v 136,v 137,v 138],[]⟩ [.code cy]) (b₁.at a₁ (.inRegion ops₁ (i₁ :: rest₁) :: k₁) :: cs₁)
end
section
variable {c:Cst} {tW tX:TypeId} {R:Nat→Array Value} {β:Type} {eB:β→Nat→Value} {up:β→Nat→β} {k q:Nat} {Ur:Goroutine→Prop}
variable {b₁:Frame} {a₁:Act} {ops₁:Array Oper} {i₁:Nat} {rest₁:List Nat} {k₁:List Item} {cs₁:List Frame}
set_option maxRecDepth 100000 in
theorem sO (l:Array Value) (hl:l.size=139) (h0:l[0]? = some (.pointer (some ⟨c.Fd,0,none⟩))) :
  kLe c b₁ a₁ ops₁ i₁ rest₁ k₁ cs₁ (G ((base 89).at ⟨l,[]⟩ [.code cy]) (b₁.at a₁ (.inRegion ops₁ (i₁ :: rest₁) :: k₁) :: cs₁)):=by
 have e:=bU l 139 hl
 have f:∀(i:Nat) (x:Value),l[i]? = some x→l.getD i undef=x:=fun i x hx=>by simp[Array.getD_eq_getD_getElem?,hx]
 refine ⟨fun i=>l.getD i undef,?_⟩
 rw[←f 0 _ h0]
 generalize hv:(fun i=>l.getD i undef)=v at e
 have fv:∀i,l.getD i undef=v i:=fun i=>by rw[←hv]
 simp only[fv]
 rw[e]
 rfl
set_option maxRecDepth 100000 in
set_option maxHeartbeats 8000000 in
theorem xg (hT:dh Try.prog c tW tX R eB up k q Ur (G (b₁.at (a₁.put ((ops₁[i₁]?).bind (·.dst)) (.tuple #[])) (.inRegion ops₁ rest₁ :: k₁)) cs₁)) {g:Goroutine} (hg:kLe c b₁ a₁ ops₁ i₁ rest₁ k₁ cs₁ g) :
  ∀w,Ok3 c tW w→Goes Try.prog false (fun _ w=>Ok3 c tW w) DC0 (fun g _=>g.status=.running∧yLe Try.prog c tW (yLa Try.prog c tW (dh Try.prog c tW tX R eB up k q Ur)) g) 20 g w:=by
 obtain ⟨v,rfl⟩:=hg
 intro w hF
 simp only[cy,Try.f89,Option.getD_some]
 repeat w_go aa
 refine Goes.stop (fun w₁ h₁=>?_)
 clear h₁ hF
 refine ⟨rfl,⟨_,_,rfl⟩,fun w W m hk hm hsf hok hq hm1 _=>⟨_,W,m,_,w,_,.le,stepG_mark0 .enable (by simp) rfl rfl (by k_ne) rfl eg.f_enable (x_enable_n wgL) (x_enable_b wgL) (x_enable_x wgL) (x_enable_f wgL),bC.same hm,fun e he=>by simp at he;subst he;exact .inr (.inr rfl),rfl,rfl,aO 40 rfl fun w hF=>?_⟩⟩
 clear hk hm hsf hok hq hm1
 walk_nrm
 repeat w_go aa
 m_convG Try.prog eg.underlying_tUP Bg Cj (mO hF).choose_spec aa hF
 refine Goes.stop (fun w₁ h₁=>?_)
 clear h₁ hF
 refine ⟨rfl,⟨_,_,rfl⟩,_,fun w _=>stepG_markAt .acquire (by simp) rfl rfl (by k_ne) rfl eg.f_acquire (x_acquire_n wgL) (x_acquire_b wgL) (x_acquire_x wgL) (x_acquire_f wgL) (by simp[Act.eval,gZ]),?_⟩
 obtain ⟨mT,hT'⟩:=hT
 refine ⟨20+mT,fun b w h1 h2 h3=>?_⟩
 have hF:=And.intro h1 (And.intro h2 h3)
 clear h1 h2 h3
 unfold fu
 refine fD ⟨hF.1,hF.2.1,fun _ _=>rfl⟩ ?_
 walk_nrm
 repeat w_go bM
 u_leave0 Try.func89 bM hF
 exact Goes.stop fun w₁ h₁=>by
  have hF:=bM hF h₁
  exact hT' b w₁ hF.1 hF.2.1 hF.2.2
end
end Cs
end Go.Proofs.Ytpdemelchhkfaaa
