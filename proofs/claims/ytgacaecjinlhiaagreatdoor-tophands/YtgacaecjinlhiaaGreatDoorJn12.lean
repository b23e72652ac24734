import Derived.Conc.CompanyWords
import Derived.Conc.TokenWalk
import Derived.WalkKit
import Derived.Test.YtgacaecjinlhiaaGreatDoorJn11
import Derived.Test.YtgacaecjinlhiaaGreatDoorChecked
namespace Go.Proofs.YtgacaecjinlhiaaGreatDoor
namespace Cs
open Go.Conc
open Go.ConcN (sumTo sumTo_congr)
def DW (w w':World) (es:Array Event):Prop:=w.heap.size≤w'.heap.size∧∀e ∈ es,EvW w'.heap.size e
section
variable {P:Program} {gs:Array Goroutine} {t:Trace} {q:Nat→Nat} {g:Goroutine} {w:World} {sl:Option (Nat × Nat)}
theorem dH {D:World→World→Array Event→Prop} {Stp:Goroutine→World→Prop} (hD:∀w w' es,D w w' es→DW w w' es) (hS:∀g w,Stp g w→g.status=.running) {m:Nat} (h0:gs[0]? = some g) (hG:Goes P true AtRel D Stp m g w) (hq:Qt P gs t q w.heap.size) :
  ∃N gs' w' sl' t' q' g',runNT P N (crowd gs w sl) t=(.next (crowd gs' w' sl'),t')∧gs'.size=gs.size∧gs'[0]? = some g'∧Stp g' w'∧Qt P gs' t' q' w'.heap.size:=by
 have a1:∀(μ:Nat) g' w' d,Goes P true AtRel D Stp μ g' w'→Goes P true AtRel D Stp μ g' (w'.at d):=fun μ g' w' d h=>Goes.rely atRel_trans h ⟨d,rfl⟩
 have a4:∀(μ:Nat) g' w',Goes P true AtRel D Stp μ g' w'→(∀d,Stp g' (w'.at d))∨∃g2 w2 es μ',stepG P true g' w'=.go g2 w2 es∧μ'<μ∧Goes P true AtRel D Stp μ' g2 w2∧w'.heap.size≤w2.heap.size∧∀e ∈ es,EvW w2.heap.size e:=fun μ g' w' h=>by
  rcases h.cases with h1 | ⟨m',rfl,h1⟩
  ·exact .inl fun d=>h1 _ ⟨d,rfl⟩
  ·obtain ⟨g2,w2,es,k1,k2,k3⟩:=h1 w' (atRel_refl w')
   exact .inr ⟨g2,w2,es,m',k1,Nat.lt_succ_self _,k3,hD _ _ _ k2⟩
 obtain ⟨N,gs',w',sl',t',q',g',h1,h2,h3,h4,h5⟩:=beside (P:=P) Nat.lt_wfRel.wf (fun μ g' w'=>Goes P true AtRel D Stp μ g' w') (fun g' w'=>∀d,Stp g' (w'.at d)) a1 (fun g' w' d h d'=>h d') (fun μ g' w' h=>h.running hS w' (atRel_refl w')) a4 (sl:=sl) h0 hG hq
 exact ⟨N,gs',w',sl',t',q',g',h1,h2,h3,h4 w'.drawn,h5⟩
end
variable [Fns]
section
variable {P:Program} {c:Cst} {Post:Nat→Value→World→Prop} {S:Scr P c Post}
variable {gs:Array Goroutine} {w:World} {t:Trace} {q:Nat→Nat} {g:Goroutine}
theorem bI.Jn (S:Scr P c Post) (h1:c.S0=gs.size) (h0:gs[0]? = some g) (hq:Qt P gs t q w.heap.size) {m:Nat} (hw:Walk P c true (S.GoP 0) m g w) (ok:c.Ok w) (c1:w.heap[c.C1]? = some (.chan 0 #[] false 0 0 false)) (c2:w.heap[c.C2]? = some (.chan 0 #[] false 0 0 false))
  (fd:∀j a ad,touchAt t j=some a→a.loc=.cell ad→ad.block≠c.Fd) :
  bI S gs w t (.sp 0 m) (fun i=>.lv (q i)) (fun _=>none) (fun _ _=>False) (fun _=>none):=by
 have hno:∀i:Nat,c.S0≤i→i<gs.size→False:=fun i a b=>by omega
 refine ⟨by rw[h1];rfl,⟨g,h0,S.n1,hw⟩,fun i x a b=>hq.lv i x a b,fun i a b=>⟨q i,rfl⟩,c1,c2,(fun e=>by cases e),fun _ i a b=>(hno i a b).elim,(fun ⟨_,e⟩=>by cases e),(fun ⟨_,e⟩=>by cases e),?_,fun i k E s a b=>(hno i a b).elim,?_,?_⟩
 ·show sumTo gs.size _=0
  have:∀n,n≤gs.size→sumTo n (fun i=>lvF c i (ZW.lv (q i):ZW P))=0:=fun n=>by
   induction n with
   | zero=>intro _;rfl
   | succ n ih =>
    intro hn
    show sumTo n _+lvF c n _=0
    unfold lvF at ih ⊢
    rw[ih (by omega),if_pos (by omega)]
  exact this _ (Nat.le_refl _)
 ·exact ⟨ok,fun _ _=>rfl,(fun k hk=>by cases hk),fun i _ a b=>(hno i a b).elim,(fun _ _ e=>by cases e),fun i _ _ _ a b=>(hno i a b).elim,fun i _ a b=>(hno i a b).elim,fun _ _ e=>e.elim,fun i _ _ a b=>(hno i a b).elim,(fun _ _ e=>by cases e)⟩
 ·refine ⟨⟨hq.clean,fun l g hl=>?_,fun l _ g hg i a ha _ _=>?_,hq.words⟩,hq.low,fun j a ad ha e1 e2=>absurd e2 (fd j a ad ha e1),fun j x a hx ha=>.inl (hq.kn j x a hx ha)⟩
  ·cases l <;> simp[dB] at hl
  ·rcases hg with rfl | ⟨a1,a2⟩
   ·obtain ⟨x,hx,hxa⟩:=touch_of ha
    exact hq.kn i x a hx hxa
   ·exact (hno _ a1 a2).elim
theorem Joined.qt {mm:Machine} (h:Joined S mm t):∃gs w sl g q,mm=crowd gs w sl∧gs.size=c.S0+c.n∧gs[0]? = some g∧S.JnP g∧g.status=.running∧Qt P gs t q w.heap.size∧c.Ok w∧∃RS:Nat→Nat→Prop,(∀k q,RS k q→c.N1≤q∧q<w.heap.size)∧∀k,k<c.K→∃v,w.cell? ⟨c.Fd,k,none⟩=some v∧Res P c Post k v (RS k) w:=by
 obtain ⟨gs,w,sl,zs,fnd,RS,blk,m,g,rfl,h,hg,hj,hr⟩:=h
 have hsz:gs.size=c.S0+c.n:=h.sz
 have hall:∀i,c.S0≤i→i<gs.size→∃q,zs i=.lv q:=fun i h1 h2=>by
  have hc:sumTo gs.size (fun i=>lvF c i (zs i))=c.n:=h.cnt
  rw[hsz] at hc
  have:=zQ c.n hc (i-c.S0) (by omega)
  rw[show c.S0+(i-c.S0)=i by omega] at this
  cases hz:zs i with
  | lv q=>exact ⟨q,rfl⟩
  | _=>rw[hz] at this;cases this
 have hlv:∀i,1≤i→i<gs.size→∃q,zs i=.lv q:=fun i h1 h2=>by
  rcases Nat.lt_or_ge i c.S0 with h3 | h3
  ·exact h.old i h1 h3
  ·exact hall i h3 h2
 let q:Nat→Nat:=fun i=>match zs i with
  | .lv q=>q
  | _=>0
 refine ⟨gs,w,sl,g,q,rfl,hsz,hg,hj,hr,⟨fun i x h1 h2=>?_,h.tr.ti.clean,h.tr.ti.words,fun j x a hx ha=>?_,h.tr.low⟩,h.mem.ok,RS,h.mem.us2,fun k hk=>?_⟩
 ·obtain ⟨q',hq'⟩:=hlv i h1 (bX h2)
  have hs:=h.wk i x h1 h2
  rw[hq'] at hs
  have e:q i=q':=by show (match zs i with | .lv q=>q | _=>0)=q';rw[hq']
  rw[e]
  exact hs
 ·rcases h.tr.kn j x a hx ha with h1 | ⟨h1,h2,h3⟩
  ·exact h1
  ·obtain ⟨q,hq⟩:=hall x.g h1 h2
   rw[hq] at h3
   exact absurd trivial h3
 ·obtain ⟨i,h1,h2,h3⟩:=h.mem.jb1 k hk
  refine h.mem.jb3 k i h3 fun e=>?_
  obtain ⟨q,hq⟩:=hall i h1 h2
  rw[hq] at e
  exact e.elim
theorem Bz (hG:P.globals.size≤Fns.G) (hC:cJ P) (S:Scr P c Post) (h1:c.S0=gs.size) (h0:gs[0]? = some g) (hq:Qt P gs t q w.heap.size) {m:Nat} (hw:Walk P c true (S.GoP 0) m g w) (ok:c.Ok w) (c1:w.heap[c.C1]? = some (.chan 0 #[] false 0 0 false)) (c2:w.heap[c.C2]? = some (.chan 0 #[] false 0 0 false))
  (fd:∀j a ad,touchAt t j=some a→a.loc=.cell ad→ad.block≠c.Fd) (sl:Option (Nat × Nat)) :
  ∃N gs' w' sl' t' q' g',runNT P N (crowd gs w sl) t=(.next (crowd gs' w' sl'),t')∧gs'[0]? = some g'∧S.JnP g'∧g'.status=.running∧Qt P gs' t' q' w'.heap.size∧c.Ok w'∧∃RS:Nat→Nat→Prop,(∀k q,RS k q→c.N1≤q∧q<w'.heap.size)∧∀k,k<c.K→∃v,w'.cell? ⟨c.Fd,k,none⟩=some v∧Res P c Post k v (RS k) w':=by
 obtain ⟨N,m',t',k1,k2⟩:=(bI.Jn S h1 h0 hq hw ok c1 c2 fd).runs hG hC sl
 obtain ⟨gs',w',sl',g',q',rfl,_,k4,k5,k6,k7,k8,k9⟩:=k2.qt
 exact ⟨N,gs',w',sl',t',q',g',k1,k4,k5,k6,k7,k8,k9⟩
end
end Cs
namespace Cs
open Go.Conc
theorem cN {P:Program} {ρ:Operand→Value} {o:Oper} {ty:TypeId} {x:Operand} {p v:Value} {w:World} (ho:o.op=.load ty x) (hx:ρ x=p) (h:(Instr.loadAt ty p).run P w=.ok v w):(execOp ρ o).run P w=.ok (.value v) w:=by
 unfold execOp
 simp only[ho,hx]
 generalize Instr.loadAt ty p=s at h ⊢
 simp[go_sem,h]
theorem bY {P:Program} {ρ:Operand→Value} {o:Oper} {ty:TypeId} {x:Operand} {p:Value} {w:World} (ho:o.op=.load ty x) (hx:ρ x=p):(execOp ρ o).events P w #[]=(Instr.loadAt ty p).events P w #[]:=by
 unfold execOp
 simp only[ho,hx]
 generalize Instr.loadAt ty p=s
 simp[go_sem]
section
variable {c:Cst} {bF bM bL bD:Nat} {vm vl:Value} {g:Goroutine} {w:World}
end
end Cs
namespace Cs
open Go.Conc
section
variable {c:Cst} {bF bM bL bD n:Nat} {vm vl:Value} {cs:List Frame} {g:Goroutine} {w:World}
end
end Cs
namespace Cs
open Go.Conc
variable [Fns]
end Cs
namespace Cs
open Go.Conc
def kY (Post:Value→World→Prop) (e:Ending) (w':World):Prop:=∃v,e=.returned v∧Post v w'
section
variable {P:Program} {Post:Value→World→Prop} {fn:FuncId} {f:Func} {x:Array Value} {cs:List Frame} {w:World}
theorem cQ (hf:P.funcs[fn]? = some f) {m:Machine} {g:Goroutine} (hm:lone g.frame g.callers w=m) {e:Exit} {a':Act} {w':World} (hq:bodyPost P f (kY Post) e a' w') (h:Arrives P m (mkF fn #[] [] .run) [] cs e a' w'):Reach P cs Post g w:=by
 have hat:∀a todo,(mkF fn #[] [] .run).at a todo={ mkF fn a.tmps todo .run with defers:=a.defers }:=fun a todo=>rfl
 subst hm
 cases e with
 | normal =>
  obtain ⟨hd,v,hr,u,hu,hp⟩:=hq
  cases hu
  obtain ⟨n,hn⟩:=Steps.trans h (.one step_end)
  exact ⟨n,_,w',v,hn,⟨rfl,hd,rfl,f,hf,hr⟩,hp⟩
 | ret =>
  obtain ⟨hd,v,hr,u,hu,hp⟩:=hq
  cases hu
  obtain ⟨todo,n,hn⟩:=h
  exact ⟨n,_,w',v,hn,⟨rfl,hd,rfl,f,hf,hr⟩,hp⟩
 | panic chain =>
  obtain ⟨_,u,hu,_⟩:=hq
  cases hu
 | outgrown =>
  obtain ⟨u,hu,_⟩:=hq
  cases hu
 | exit id=>exact hq.elim
 | goto l=>exact hq.elim
theorem xD (hf:P.funcs[fn]? = some f) {c:Code} (h:c.wp P (bodyPost P f (kY Post)) ⟨x,[]⟩ w):Reach P cs Post (G (mkF fn x [.code c] .run) cs) w:=by
 obtain ⟨e,a',w',hq,harr⟩:=h (mkF fn #[] [] .run) [] cs
 exact cQ hf rfl hq harr
theorem kW (hf:P.funcs[fn]? = some f) {ops:Array Oper} {l:List Nat} {c:Code} (h:wpOps P ops (Exit.then (c.wp P (bodyPost P f (kY Post))) (bodyPost P f (kY Post))) l ⟨x,[]⟩ w):Reach P cs Post (G (mkF fn x [.inRegion ops l,.code c] .run) cs) w:=by
 obtain ⟨e,a1,w1,hq,harr⟩:=wp_ops l ⟨x,[]⟩ w h (mkF fn #[] [] .run) [.code c] cs
 cases e with
 | normal =>
  obtain ⟨e2,a2,w2,hq2,harr2⟩:=hq (mkF fn #[] [] .run) [] cs
  exact cQ hf rfl hq2 (.of_steps harr harr2)
 | exit id=>exact hq.elim
 | goto l=>exact hq.elim
 | ret=>exact cQ (e:=.ret) hf rfl hq (.pass (x:=.code c) rfl (fun _ _=>.inl (by simp)) harr)
 | panic ch=>exact cQ (e:=.panic ch) hf rfl hq (.pass (x:=.code c) rfl (fun _ _=>.inl (by simp)) harr)
 | outgrown=>exact cQ (e:=.outgrown) hf rfl hq (.pass (x:=.code c) rfl (fun _ _=>.inl (by simp)) harr)
end
variable [Fns]
section
variable {P:Program} {Post:Value→World→Prop} {c:List Frame} {E:Env} {wl w:World}
theorem bh.mid {fn:FuncId} (hf:ry P fn) {x y:Array Value} (hx:LR E x y) (hw:WR P E wl w) (hb:Fns.G≤wl.heap.size) {todo:List Item} (ht:todo.all (bH P)=true) (hr:∀τ,Reach P [aV P] Post (G (mkF fn x todo .run) [aV P]) (wl.tp τ)) :
  bh P Post c E (G (mkF fn x todo .run) [aV P]) wl (G (mkF fn y todo .run) c) w :=
 ⟨.mk' hf hx ht (.inl rfl) .base,hw,hb,fun τ _=>hr τ⟩
end
end Cs
namespace Cs
open Go.Conc Go.RowKit
variable [Fns]
structure Cp (P:Program) (E:Env) (wl w:World):Prop where
 wr:WR P E wl w
 big:Fns.G≤wl.heap.size
 sh:∀b q s o,E b=some (q,s,o)→o=false
 top:∀b,wl.heap.size≤b→E b=none
structure dM (E E':Env) (wl wl':World):Prop where
 le:E.le E'
 size:wl.heap.size≤wl'.heap.size
 old:∀b,b<wl.heap.size→wl'.heap[b]? = wl.heap[b]?
 os:wl'.os=wl.os
 tape:wl'.tape=wl.tape
 output:wl'.output=wl.output
omit [Fns] in
theorem dM.refl (E:Env) (wl:World):dM E E wl wl:=⟨E.le_refl,Nat.le_refl _,fun _ _=>rfl,rfl,rfl,rfl⟩
omit [Fns] in
theorem dM.trans {A B C:Env} {u v w:World} (h:dM A B u v) (k:dM B C v w):dM A C u w :=
 ⟨Env.le_trans h.le k.le,Nat.le_trans h.size k.size,fun b hb=>(k.old b (Nat.lt_of_lt_of_le hb h.size)).trans (h.old b hb),k.os.trans h.os,k.tape.trans h.tape,k.output.trans h.output⟩
omit [Fns] in
theorem dM.cell {E E':Env} {wl wl':World} (h:dM E E' wl wl') {a:Addr} {v:Value} (hc:wl.cell? a=some v):wl'.cell? a=some v:=by
 have hb:a.block<wl.heap.size:=World.block_lt_of_cell? _ _ hc
 have:=h.old a.block hb
 unfold World.cell? at hc ⊢
 rw[this]
 exact hc
section
variable {P:Program} {w:World}
theorem Cp.nil (w:World):Cp P (fun _=>none) { w with heap:=Array.replicate Fns.G (.cells #[] 0) } w :=
 ⟨⟨fun _ _ _ e=>(by cases e),fun _ _ _ e=>(by cases e),fun _ _ _ _ _ _ e=>(by cases e),fun _ _ e=>(by cases e)⟩,by simp,fun _ _ _ _ e=>(by cases e),fun _ _=>rfl⟩
theorem Cp.row {E:Env} {wl:World} (h:Cp P E wl w) {TJ:TypeId} (hJ:P.info? TJ=none) {q s:Nat} {y:Array Value} {T':TypeId} {fr:Nat × Nat} (hq:w.heap[q]? = some (.cells y T' fr)) (x:Array Value) (hx:∀(i:Nat) u,x[i]? = some u→∃v,y[i+s]? = some v∧VR E u v) :
  ∃E',Cp P E' (wl.alloc (.cells x TJ (0,x.size))) w∧dM E E' wl (wl.alloc (.cells x TJ (0,x.size)))∧(∀o,AR E' ⟨wl.heap.size,o,none⟩ ⟨q,o+s,none⟩)∧∀i u,x[i]? = some u→(wl.alloc (.cells x TJ (0,x.size))).cell? ⟨wl.heap.size,i,none⟩=some u:=by
 let E':Env:=fun b=>if b=wl.heap.size then some (q,s,false) else E b
 have hn:E wl.heap.size=none:=h.top _ (Nat.le_refl _)
 have hle:E.le E':=fun b x e=>by
  show (if b=wl.heap.size then some (q,s,false) else E b)=some x
  rw[if_neg (fun e'=>by rw[e',hn] at e;cases e)]
  exact e
 have hsz:(wl.alloc (.cells x TJ (0,x.size))).heap.size=wl.heap.size+1:=by simp
 have hold:∀b,b<wl.heap.size→(wl.alloc (.cells x TJ (0,x.size))).heap[b]? = wl.heap[b]?:=fun b hb=>Below.heap_alloc wl _ b hb
 have hnew:(wl.alloc (.cells x TJ (0,x.size))).heap[wl.heap.size]? = some (.cells x TJ (0,x.size)):=heap_alloc_new wl _
 have hE:∀b q' s' o,E' b=some (q',s',o)→(b=wl.heap.size∧q'=q∧s'=s∧o=false)∨E b=some (q',s',o):=fun b q' s' o e=>by
  have e':(if b=wl.heap.size then some (q,s,false) else E b)=some (q',s',o):=e
  by_cases hb:b=wl.heap.size
  ·rw[if_pos hb] at e'
   cases e'
   exact .inl ⟨hb,rfl,rfl,rfl⟩
  ·rw[if_neg hb] at e'
   exact .inr e'
 refine ⟨E',⟨⟨fun b c s' e=>?_,fun b c s' e=>?_,fun b b' c s' s'' o e e2=>?_,fun b x' e=>?_⟩,by rw[hsz];exact Nat.le_succ_of_le h.big,fun b q' s' o e=>?_,fun b hb=>?_⟩,⟨hle,by rw[hsz];exact Nat.le_succ _,hold,rfl,rfl,rfl⟩,fun o=>⟨s,false,by show (if wl.heap.size=wl.heap.size then _ else _)=_;rw[if_pos rfl],rfl,rfl,h.big,fun e=>by cases e⟩,fun i u hu=>?_⟩
 ·rcases hE b c s' true e with ⟨_,_,_,e'⟩ | e'
  ·cases e'
  ·have:=h.sh _ _ _ _ e'
   cases this
 ·rcases hE b c s' false e with ⟨rfl,rfl,rfl,_⟩ | e'
  ·exact ⟨x,TJ,y,T',fr,hnew,hJ,hq,fun i u hu=>by
    obtain ⟨v,h1,h2⟩:=hx i u hu
    exact ⟨v,h1,h2.mono hle⟩⟩
  ·obtain ⟨x',T,y',T2,fr',h1,h2,h3,h4⟩:=h.wr.shared b c s' e'
   exact ⟨x',T,y',T2,fr',(hold b (h.wr.lt e').1).trans h1,h2,h3,fun i u hu=>by
    obtain ⟨v,k1,k2⟩:=h4 i u hu
    exact ⟨v,k1,k2.mono hle⟩⟩
 ·rcases hE b c s' true e with ⟨_,_,_,e'⟩ | e'
  ·cases e'
  ·have:=h.sh _ _ _ _ e'
   cases this
 ·obtain ⟨q',s',o⟩:=x'
  rcases hE b q' s' o e with ⟨rfl,_⟩ | e'
  ·exact h.big
  ·exact h.wr.low b _ e'
 ·rcases hE b q' s' o e with ⟨_,_,_,e'⟩ | e'
  ·exact e'
  ·exact h.sh _ _ _ _ e'
 ·rw[hsz] at hb
  show (if b=wl.heap.size then some (q,s,false) else E b)=none
  rw[if_neg (by omega)]
  exact h.top b (by omega)
 ·rw[cell_of_row _ _ _ _ _ _ hnew]
  exact hu
end
end Cs
namespace Cs
variable [Fns]
theorem uC {E:Env} {c:Array Value} (ih:∀(i:Nat) (hi:i<c.size),∃u,VR E u c[i]):∃x,LR E x c:=by
 refine ⟨Array.ofFn fun i:Fin c.size=>(ih i i.2).choose,by simp,fun i u v hu hv=>?_⟩
 obtain ⟨hi,rfl⟩:=Array.getElem?_eq_some_iff.1 hv
 obtain ⟨hj,rfl⟩:=Array.getElem?_eq_some_iff.1 hu
 simp only[Array.getElem_ofFn]
 exact (ih i hi).choose_spec
theorem Cu (E:Env):∀(n:Nat) (v:Value),SizeOf.sizeOf v<n→∃u,VR E u v
 | 0,_,h=>absurd h (Nat.not_lt_zero _)
 | n+1,v,h=>by
  cases v with
  | agg c =>
   obtain ⟨x,hx⟩:=uC (E:=E) (c:=c) fun i hi=>Cu E n c[i] (by
    have:=Array.sizeOf_getElem c i hi
    simp only[Value.agg.sizeOf_spec] at h
    omega)
   exact ⟨_,.lu hx⟩
  | tuple c =>
   obtain ⟨x,hx⟩:=uC (E:=E) (c:=c) fun i hi=>Cu E n c[i] (by
    have:=Array.sizeOf_getElem c i hi
    simp only[Value.tuple.sizeOf_spec] at h
    omega)
   exact ⟨_,.mkTuple hx⟩
  | bool b=>exact ⟨_,.bool b⟩
  | nilIface=>exact ⟨_,.nilIface⟩
  | _=>exact ⟨_,.any _ rfl⟩
theorem bg (E:Env) (v:Value):∃u,VR E u v:=Cu E _ v (Nat.lt_succ_self _)
end Cs
namespace Cs
open Go.Conc
theorem xW {P:Program} {Post1 Post:Value→World→Prop} {f2:Frame} {cs cs1:List Frame} {g:Goroutine} {w:World} (h:Reach P (f2 :: cs1) Post1 g w) (h2:∀v w',Post1 v w'→Reach P cs Post (G (f2.finish v) cs1) w'):Reach P cs Post g w:=by
 obtain ⟨n,fr,w',v,hn,hl,hp⟩:=h
 obtain ⟨n2,fr2,w2,v2,hn2,hl2,hp2⟩:=h2 v w' hp
 obtain ⟨k,hk⟩:=Steps.trans ⟨n,hn⟩ (Steps.trans (.one (step_leave_returned hl)) ⟨n2,hn2⟩)
 exact ⟨k,fr2,w2,v2,hk,hl2,hp2⟩
variable [Fns]
section
variable {P:Program} {Post:Value→World→Prop} {c:List Frame} {E:Env} {wl w:World}
theorem bh.LJ {fn:FuncId} (hf:ry P fn) {x y:Array Value} (hx:LR E x y) (hw:WR P E wl w) (hb:Fns.G≤wl.heap.size) {todo:List Item} (ht:todo.all (bH P)=true) {l l':List Frame} (hl:CR P E [aV P] c l l') (hr:∀τ,Reach P [aV P] Post (G (mkF fn x todo .run) l) (wl.tp τ)) :
  bh P Post c E (G (mkF fn x todo .run) l) wl (G (mkF fn y todo .run) l') w :=
 ⟨.mk' hf hx ht (.inl rfl) hl,hw,hb,fun τ _=>hr τ⟩
end
end Cs
namespace Cs
def yU:List FuncId:=[6,9,10,12,13,14,15,16,25,28,29,30,31,33,34,35,36,43,52,53,54,55,56,57,58,59,60,61,62,88,90,91,92,93,94,95,115,116,117,140,141]
noncomputable instance fdFns:Fns where
 ok:=fun f=>yU.contains f
 G:=Tryz.prog.globals.size
noncomputable def DT:List FuncId:=yU.filter fun f=>match Tryz.prog.funcs[f]? with
 | some fn => (match fn.body with | some b => !(codeOk Tryz.prog b) | none => true) || (fn.name == "runtime.NumGoroutine")
 | none=>true
theorem Hg:DT=[]:=by kernel_rfl
theorem dc:cJ Tryz.prog:=fun f hf=>by
 have hm:f ∈ yU:=List.contains_iff_mem.1 hf
 have hb:f ∉ DT:=by rw[Hg];simp
 unfold DT at hb
 rw[List.mem_filter] at hb
 have hb':=fun e=>hb ⟨hm,e⟩
 cases h1:Tryz.prog.funcs[f]? with
 | none=>exact absurd (by simp only[h1]) hb'
 | some fn =>
  cases h2:fn.body with
  | none=>exact absurd (by simp only[h1,h2,Bool.true_or]) hb'
  | some b =>
   cases h3:codeOk Tryz.prog b with
   | false=>exact absurd (by simp only[h1,h2,h3,Bool.not_false,Bool.true_or]) hb'
   | true =>
    cases h4 : (fn.name == "runtime.NumGoroutine") with
    | true=>exact absurd (by simp only[h1,h2,h3,h4,Bool.or_true]) hb'
    | false=>exact ⟨fn,b,rfl,h2,h3,h4⟩
end Cs
namespace Cs
open Go.Conc
variable [Fns]
section
variable {P:Program} {Post:Value→World→Prop}
theorem uR (hG:P.globals.size≤Fns.G) (hC:cJ P) {gs:Array Goroutine} {t:Trace} {q:Nat→Nat} {g:Goroutine} {w:World} {sl:Option (Nat × Nat)} {c:List Frame} {E:Env} {gl:Goroutine} {wl:World} (h0:gs[0]? = some g) (hin:bh P Post c E gl wl g w) (hq:Qt P gs t q w.heap.size) :
  ∃N gs' w' sl' t' q' E' gl' wl' g',runNT P N (crowd gs w sl) t=(.next (crowd gs' w' sl'),t')∧gs'.size=gs.size∧gs'[0]? = some g'∧bh P Post c E' gl' wl' g' w'∧Stop [aV P] gl'∧eU g'=eU g∧FC E E' w w'∧Qt P gs' t' q' w'.heap.size:=by
 let Q:Goroutine→World→Prop:=fun g' w'=>∃E' gl' wl',bh P Post c E' gl' wl' g' w'∧Stop [aV P] gl'∧eU g'=eU g∧FC E E' w w'
 let I:Option { s:Gh // Acc (After P [aV P]) s }→Goroutine→World→Prop:=fun μ g' w'=>match μ with
  | some s=>∃E',bh P Post c E' s.1.1 s.1.2 g' w'∧eU g'=eU g∧FC E E' w w'
  | none=>False
 have fcAt:∀{E':Env} {w':World} (d:Nat),FC E E' w w'→FC E E' w (w'.at d):=fun d h=>⟨h.le,h.os,h.tape,h.output,h.size,h.keep,h.fresh⟩
 have fcAt':∀{E':Env} {w':World} (d:Nat),FC E E' w (w'.at d)→FC E E' w w':=fun d h=>⟨h.le,h.os,h.tape,h.output,h.size,h.keep,h.fresh⟩
 have a1:∀μ g' w' d,I μ g' w'→I μ g' (w'.at d):=fun μ g' w' d h=>by
  cases μ with
  | none=>exact h.elim
  | some s =>
   obtain ⟨E',h1,h3,h2⟩:=h
   exact ⟨E',h1.other fun _ _ _=>rfl,h3,fcAt d h2⟩
 have a2:∀g' w' d,Q g' (w'.at d)→Q g' w':=fun g' w' d h=>by
  obtain ⟨E',gl',wl',k1,k2,k3,k4⟩:=h
  exact ⟨E',gl',wl',k1.other fun _ _ _=>rfl,k2,k3,fcAt' d k4⟩
 have a3:∀μ g' w',I μ g' w'→g'.status=.running:=fun μ g' w' h=>by
  cases μ with
  | none=>exact h.elim
  | some s =>
   obtain ⟨E',h1,h3,h2⟩:=h
   exact h1.running
 have a4:∀μ g' w',I μ g' w'→Q g' w'∨∃g2 w2 es μ',stepG P true g' w'=.go g2 w2 es∧sv P μ' μ∧I μ' g2 w2∧w'.heap.size≤w2.heap.size∧∀e ∈ es,EvW w2.heap.size e:=fun μ g' w' h=>by
  cases μ with
  | none=>exact h.elim
  | some s =>
   obtain ⟨E1,hin1,hl1,hf1⟩:=h
   by_cases hs:Stop [aV P] s.1.1
   ·exact .inl ⟨E1,_,_,hin1,hs,hl1,hf1⟩
   ·obtain ⟨E',gl',wl',g2,w2,es,hst,hin',haft,hev,hfc,hl2⟩:=hin1.step2 hG hC true hs
    exact .inr ⟨g2,w2,es,some ⟨(gl',wl'),fR hin'.live⟩,hst,.on haft,⟨E',hin',hl2.trans hl1,hf1.trans hfc⟩,hfc.size,fun e he=>qE hin'.wr (hev e he)⟩
 obtain ⟨N,gs',w',sl',t',q',g',h1,h2,h3,⟨E',gl',wl',k1,k2,k3,k4⟩,h5⟩:=beside (P:=P) (uH P) I Q a1 a2 a3 a4 (μ:=some ⟨(gl,wl),fR hin.live⟩) (sl:=sl) h0 ⟨E,hin,rfl,FC.refl E w⟩ hq
 exact ⟨N,gs',w',sl',t',q',E',gl',wl',g',h1,h2,h3,k1,k2,k3,k4,h5⟩
theorem bh.atEnd {E:Env} {gl g:Goroutine} {wl w:World} (hin:bh P Post [] E gl wl g w) (hs:Stop [aV P] gl) {fn0:FuncId} {f:Func} {t:Nat} (hl:eU g=fn0) (hf:P.funcs[fn0]? = some f) (hr:f.results=#[.tmp t]) (hn:P.inits.idxOf? fn0=none) :
  ∃v v' wl2,Post v wl2∧VR E v v'∧g.status=.running∧∀w,stepG P true g w=.ended (.done v') w #[]:=by
 obtain ⟨v,hlv,hp⟩:=sk hin.gr hs (hin.live (cI wl w) (fun i q hi=>gi q hi))
 obtain ⟨fn,x,y,todo,mode,l,l',rfl,rfl,hf',hx,ht,hm,hcr⟩:=hin.gr.ex
 obtain ⟨hm2,hl2⟩:=hs
 have hm2':mode=.returning:=hm2
 have hl2':l=[aV P]:=hl2
 subst hm2' hl2'
 have hlc:l'=[]:=by
  have hlen:∀{a b:List Frame},CR P E [aV P] [] a b→a=[aV P]→b=[]:=fun {a b} hab e=>by
   cases hab with
   | base=>rfl
   | cons hf2 hx2 ht2 h2 =>
    exfalso
    injection e with e1 e2
    have:=congrArg Frame.todo e1
    simp only[mkF,aV] at this
    rw[this] at ht2
    simp[uv,bH] at ht2
  exact hlen hcr rfl
 subst hlc
 have hfn:fn=fn0:=hl
 subst hfn
 obtain ⟨_,_,_,f2,hfn2,hr2⟩:=hlv
 have e2:f2=f:=by
  have h1:P.funcs[fn]? = some f2:=hfn2
  rw[hf] at h1
  injection h1 with h1
  exact h1.symm
 subst e2
 have hr3:(results f2 x).run P (wl.tp (cI wl w))=.ok v (wl.tp (cI wl w)):=hr2
 rw[(resultsC_tmp (P:=P) hr x (wl.tp (cI wl w))).1] at hr3
 injection hr3 with hv _
 subst hv
 refine ⟨_,_,_,hp,oI hx t,rfl,fun w=>?_⟩
 have h1:=(resultsC_tmp (P:=P) hr y w).1
 have h2:=(resultsC_tmp (P:=P) hr y w).2
 have h3:(results f2 y).runT P w #[]=(.ok (y.getD t undef) w,#[]):=by
  refine Prod.ext ?_ ?_
  ·rw[Sem.runT_fst];exact h1
  ·exact h2
 simp only[G,stepG,unwind,mkF,hf,doReturn,h3,hn]
 rfl
end
end Cs
namespace Cs
open Go.Conc
open Go.ConcN (sumTo sumTo_congr upd upd_same upd_ne sumTo_upd)
structure QtF (Pl:Touch→Prop) (P:Program) (gs:Array Goroutine) (t:Trace) (q:Nat→Nat) (size:Nat):Prop where
 qt:Qt P gs t q size
 pl:∀j a,touchAt t j=some a→Pl a
section
variable {P:Program} {gs gs':Array Goroutine} {t:Trace} {q q':Nat→Nat} {size size':Nat}
theorem QtF.own {Pl:Touch→Prop} (h:QtF Pl P gs t q size) {fn:FuncId} {pos:String} {es:Array Event} (hs:size≤size') (hes:∀e ∈ es,EvW size' e∧∀x,(MemAct.ofEvent e).touch? = some x→Pl x) (hlv:∀i g,0<i→gs'[i]? = some g→QuitsIn P (q i) g):QtF Pl P gs' (t++MemOp.ofEvents 0 fn pos es) q size':=by
 refine ⟨h.qt.own hs (fun e he=>(hes e he).1) hlv,fun j a ha=>?_⟩
 obtain ⟨x,hx,hxa⟩:=touch_of ha
 rcases getElem?_append_cases hx with ⟨_,hx'⟩ | ⟨_,hxu⟩
 ·exact h.pl j a (by rw[touchAt_of hx'];exact hxa)
 ·obtain ⟨e,he,rfl⟩:=Conc.mem_ofEvents hxu
  exact (hes e he).2 a hxa
theorem QtF.set {Pl:Touch→Prop} (h:QtF Pl P gs t q size) (hlv:∀i g,0<i→gs'[i]? = some g→QuitsIn P (q' i) g):QtF Pl P gs' t q' size:=⟨h.qt.set hlv,h.pl⟩
theorem EG {Pl:Touch→Prop} {α:Type} {r:α→α→Prop} (wf:WellFounded r) (I:α→Goroutine→World→Prop) (Q:Goroutine→World→Prop) (hI:∀μ g w d,I μ g w→I μ g (w.at d)) (hQ:∀g w d,Q g (w.at d)→Q g w) (hrun:∀μ g w,I μ g w→g.status=.running)
  (hstep:∀μ g w,I μ g w→Q g w∨∃g' w' es μ',stepG P true g w=.go g' w' es∧r μ' μ∧I μ' g' w'∧w.heap.size≤w'.heap.size∧∀e ∈ es,EvW w'.heap.size e∧∀x,(MemAct.ofEvent e).touch? = some x→Pl x) {μ:α} {g:Goroutine} {w:World} {sl:Option (Nat × Nat)} (h0:gs[0]? = some g) (hi:I μ g w) (hq:QtF Pl P gs t q w.heap.size) :
  ∃N gs' w' sl' t' q' g',runNT P N (crowd gs w sl) t=(.next (crowd gs' w' sl'),t')∧gs'.size=gs.size∧gs'[0]? = some g'∧Q g' w'∧QtF Pl P gs' t' q' w'.heap.size:=by
 have key:=iI (P:=P) (Prod.lex ⟨r,wf⟩ ⟨_,Nat.lt_wfRel.wf⟩).wf (fun (μ:α × Nat) m t=>∃gs' w sl q g,m=crowd gs' w sl∧gs'.size=gs.size∧gs'[0]? = some g∧I μ.1 g w∧QtF Pl P gs' t q w.heap.size∧μ.2=sumTo gs'.size q)
  (fun m t=>∃gs' w sl q g,m=crowd gs' w sl∧gs'.size=gs.size∧gs'[0]? = some g∧Q g w∧QtF Pl P gs' t q w.heap.size) ?_ (μ,sumTo gs.size q) _ t ⟨gs,w,sl,q,g,rfl,rfl,h0,hi,hq,rfl⟩
 ·obtain ⟨N,m',t',h1,gs',w',sl',q',g',rfl,h2,h3,h4,h5⟩:=key
  exact ⟨N,gs',w',sl',t',q',g',h1,h2,h3,h4,h5⟩
 ·rintro ⟨μ,k⟩ m t ⟨gs,w,sl,q,g,rfl,hsz,h0,hi,hq,rfl⟩
  have hg:=hrun μ g w hi
  have haw:∀x ∈ gs,awake x:=fun x hx=>by
   obtain ⟨i,hlt,rfl⟩:=Array.mem_iff_getElem.1 hx
   rcases Nat.eq_zero_or_pos i with rfl | hp
   ·have:gs[0]=g:=by simpa [Array.getElem?_eq_getElem hlt] using h0
    rw[this];exact awake_of (.inl hg)
   ·rcases (hq.qt.lv i _ hp (Array.getElem?_eq_getElem hlt)).status with h3 | h3
    ·exact awake_of (.inl h3)
    ·exact awake_of (.inr (.inr h3))
  obtain ⟨i,x,d,sl',hx,hxr,hst⟩:=crowd_pick (P:=P) (w:=w) (sl:=sl) haw ⟨0,g,h0,hg⟩
  have quiet:∀(a a' y:Goroutine) (w':World) (j:Nat),(gs.map (woken P a a' w')).setIfInBounds j y=gs.setIfInBounds j y:=fun a a' y w' j=>ir fun k z _ hz=>by
   rcases Nat.eq_zero_or_pos k with rfl | hp
   ·rw[h0] at hz
    cases hz
    exact woken_running hg
   ·exact woken_quits (hq.qt.lv k z hp hz)
  rcases Nat.eq_zero_or_pos i with rfl | hp
  ·rw[h0] at hx
   cases hx
   rcases hstep μ g (w.at d) (hI μ g w d hi) with h1 | ⟨g',w',es,μ',h1,h2,h3,h4,h5⟩
   ·exact .inl ⟨gs,w,sl,q,g,rfl,hsz,h0,hQ g w d h1,hq⟩
   ·have hr:=runT_crowd_go (P:=P) (sl:=sl') (i:=0) h0 (show stepG P (0==0) g (w.at d)=_ from h1)
    rw[quiet] at hr
    refine .inr ⟨_,_,(μ',sumTo gs.size q),hst.trans hr,Prod.Lex.left _ _ h2,_,w',sl',q,g',rfl,by rw[Array.size_setIfInBounds];exact hsz,Array.getElem?_setIfInBounds_self_of_lt (bX h0),h3,hq.own (gs':=gs.setIfInBounds 0 g') h4 h5 fun k z hk hz=>?_,by rw[Array.size_setIfInBounds]⟩
    rw[Array.getElem?_setIfInBounds_ne (by omega)] at hz
    exact hq.qt.lv k z hk hz
  ·have hqi:=hq.qt.lv i x hp hx
   cases hqe:q i with
   | zero =>
    rw[hqe] at hqi
    have:x.status=.finished:=hqi
    rw[hxr] at this;cases this
   | succ n =>
    rw[hqe] at hqi
    rcases hqi with hf | ⟨_,x',hstp,hq'⟩
    ·rw[hxr] at hf;cases hf
    ·have hr:=runT_crowd_go (P:=P) (sl:=sl') (i:=i) hx (by rw[show (i==0)=false by simp;omega];exact hstp (w.at d))
     rw[quiet] at hr
     have hsum:sumTo gs.size (upd q i n)+(n+1)=sumTo gs.size q+n:=by
      have:=sumTo_upd q n id (bX hx)
      simpa [hqe] using this
     refine .inr ⟨_,_,(μ,sumTo gs.size (upd q i n)),hst.trans hr,Prod.Lex.right _ (show _<_ by omega),_,w.at d,sl',upd q i n,g,rfl,by rw[Array.size_setIfInBounds];exact hsz,?_,hI μ g w d hi,?_,by rw[Array.size_setIfInBounds]⟩
     ·rw[Array.getElem?_setIfInBounds_ne (by omega)];exact h0
     ·have e:t++MemOp.ofEvents i x.frame.fn x.frame.place #[]=t:=by rw[ofEvents_none,Array.append_empty]
      rw[e]
      refine hq.set fun k z hk hz=>?_
      by_cases ek:k=i
      ·subst ek
       rw[Array.getElem?_setIfInBounds_self_of_lt (bX hx)] at hz
       cases hz
       rw[upd_same];exact hq'
      ·rw[Array.getElem?_setIfInBounds_ne (fun e=>ek e.symm)] at hz
       rw[upd_ne _ _ ek]
       exact hq.qt.lv k z hk hz
theorem gB {Pl:Touch→Prop} {g:Goroutine} {w:World} {sl:Option (Nat × Nat)} {D:World→World→Array Event→Prop} {Stp:Goroutine→World→Prop} (hD:∀w w' es,D w w' es→w.heap.size≤w'.heap.size∧∀e ∈ es,EvW w'.heap.size e∧∀x,(MemAct.ofEvent e).touch? = some x→Pl x) (hS:∀g w,Stp g w→g.status=.running) {m:Nat} (h0:gs[0]? = some g) (hG:Goes P true AtRel D Stp m g w) (hq:QtF Pl P gs t q w.heap.size) :
  ∃N gs' w' sl' t' q' g',runNT P N (crowd gs w sl) t=(.next (crowd gs' w' sl'),t')∧gs'.size=gs.size∧gs'[0]? = some g'∧Stp g' w'∧QtF Pl P gs' t' q' w'.heap.size:=by
 have a1:∀(μ:Nat) g' w' d,Goes P true AtRel D Stp μ g' w'→Goes P true AtRel D Stp μ g' (w'.at d):=fun μ g' w' d h=>Goes.rely atRel_trans h ⟨d,rfl⟩
 have a4:∀(μ:Nat) g' w',Goes P true AtRel D Stp μ g' w'→(∀d,Stp g' (w'.at d))∨∃g2 w2 es μ',stepG P true g' w'=.go g2 w2 es∧μ'<μ∧Goes P true AtRel D Stp μ' g2 w2∧w'.heap.size≤w2.heap.size∧∀e ∈ es,EvW w2.heap.size e∧∀x,(MemAct.ofEvent e).touch? = some x→Pl x:=fun μ g' w' h=>by
  rcases h.cases with h1 | ⟨m',rfl,h1⟩
  ·exact .inl fun d=>h1 _ ⟨d,rfl⟩
  ·obtain ⟨g2,w2,es,k1,k2,k3⟩:=h1 w' (atRel_refl w')
   exact .inr ⟨g2,w2,es,m',k1,Nat.lt_succ_self _,k3,hD _ _ _ k2⟩
 obtain ⟨N,gs',w',sl',t',q',g',h1,h2,h3,h4,h5⟩:=EG (P:=P) (Pl:=Pl) Nat.lt_wfRel.wf (fun μ g' w'=>Goes P true AtRel D Stp μ g' w') (fun g' w'=>∀d,Stp g' (w'.at d)) a1 (fun g' w' d h d'=>h d') (fun μ g' w' h=>h.running hS w' (atRel_refl w')) a4 (sl:=sl) h0 hG hq
 exact ⟨N,gs',w',sl',t',q',g',h1,h2,h3,h4 w'.drawn,h5⟩
end
end Cs
end Go.Proofs.YtgacaecjinlhiaaGreatDoor
