/-
  Several texts, joined: CtL, CtM, CtN, CtO, CtP, CtQ.
-/
import Derived.Test.YtpdemelchhkfaaaJn12
import Derived.Calls
import Derived.Below
import Derived.WalkKit
import Derived.Conc.CompanyCalls
/-
  The pool begins beside goroutines that only leave, and ends so; goroutine 0 walks there; the run's end.
-/
namespace Go.Proofs.Ytpdemelchhkfaaa.Cs
open Go.Conc
open Go.ConcN (sumTo sumTo_congr)
section
variable {P:Program} {gs:Array Goroutine} {t:Trace} {q:Nat→Nat} {g:Goroutine} {w:World} {sl:Option (Nat × Nat)}
end
variable [Fns]
section
variable {P:Program} {c:Cst} {Post:Nat→Value→World→Prop} {S:Scr P c Post}
variable {gs:Array Goroutine} {w:World} {t:Trace} {q:Nat→Nat} {g:Goroutine}
theorem Pool.starts (S:Scr P c Post) (h1:c.S0=gs.size) (h0:gs[0]? = some g) (hq:Qt P gs t q w.heap.size) {m:Nat} (hw:Walk P c true (S.GoP 0) m g w) (ok:c.Ok w) (c1:w.heap[c.C1]? = some (.chan 0 #[] false 0 0 false)) (c2:w.heap[c.C2]? = some (.chan 0 #[] false 0 0 false))
  (fd:∀j a ad,touchAt t j=some a→a.loc=.cell ad→ad.block≠c.Fd) :
  Pool S gs w t (.sp 0 m) (fun i=>.lv (q i)) (fun _=>none) (fun _ _=>False) (fun _=>none):=by
 have hno:∀i:Nat,c.S0≤i→i<gs.size→False:=fun i a b=>by omega
 refine ⟨by rw[h1];rfl,⟨g,h0,S.n1,hw⟩,fun i x a b=>hq.lv i x a b,fun i a b=>⟨q i,rfl⟩,c1,c2,(fun e=>by cases e),fun _ i a b=>(hno i a b).elim,(fun ⟨_,e⟩=>by cases e),(fun ⟨_,e⟩=>by cases e),?_,fun i k E s a b=>(hno i a b).elim,?_,?_⟩
 ·show sumTo gs.size _=0
  have:∀n,n≤gs.size→sumTo n (fun i=>lvF c i (ZW.lv (q i):ZW P))=0:=fun n=>by
   induction n with
   | zero=>intro _;rfl
   | succ n ih =>
    intro hn
    show sumTo n _+lvF c n _=0
    unfold lvF at ih ⊢
    rw[ih (by omega),if_pos (by omega)]
  exact this _ (Nat.le_refl _)
 ·exact ⟨ok,fun _ _=>rfl,(fun k hk=>by cases hk),fun i _ a b=>(hno i a b).elim,(fun _ _ e=>by cases e),fun i _ _ _ a b=>(hno i a b).elim,fun i _ a b=>(hno i a b).elim,fun _ _ e=>e.elim,fun i _ _ a b=>(hno i a b).elim,(fun _ _ e=>by cases e)⟩
 ·refine ⟨⟨hq.clean,fun l g hl=>?_,fun l _ g hg i a ha _ _=>?_,hq.words⟩,hq.low,fun j a ad ha e1 e2=>absurd e2 (fd j a ad ha e1),fun j x a hx ha=>.inl (hq.kn j x a hx ha)⟩
  ·cases l <;> simp[ownOf] at hl
  ·rcases hg with rfl | ⟨a1,a2⟩
   ·obtain ⟨x,hx,hxa⟩:=touch_of ha
    exact hq.kn i x a hx hxa
   ·exact (hno _ a1 a2).elim
theorem Joined.qt {mm:Machine} (h:Joined S mm t):∃gs w sl g q,mm=crowd gs w sl∧gs.size=c.S0+c.n∧gs[0]? = some g∧S.JnP g∧g.status=.running∧Qt P gs t q w.heap.size∧c.Ok w∧∃RS:Nat→Nat→Prop,(∀k q,RS k q→c.N1≤q∧q<w.heap.size)∧∀k,k<c.K→∃v,w.cell? ⟨c.Fd,k,none⟩=some v∧Res P c Post k v (RS k) w:=by
 obtain ⟨gs,w,sl,zs,fnd,RS,blk,m,g,rfl,h,hg,hj,hr⟩:=h
 have hsz:gs.size=c.S0+c.n:=h.sz
 have hall:∀i,c.S0≤i→i<gs.size→∃q,zs i=.lv q:=fun i h1 h2=>by
  have hc:sumTo gs.size (fun i=>lvF c i (zs i))=c.n:=h.cnt
  rw[hsz] at hc
  have:=lv_each c.n hc (i-c.S0) (by omega)
  rw[show c.S0+(i-c.S0)=i by omega] at this
  cases hz:zs i with
  | lv q=>exact ⟨q,rfl⟩
  | _=>rw[hz] at this;cases this
 have hlv:∀i,1≤i→i<gs.size→∃q,zs i=.lv q:=fun i h1 h2=>by
  rcases Nat.lt_or_ge i c.S0 with h3 | h3
  ·exact h.old i h1 h3
  ·exact hall i h3 h2
 let q:Nat→Nat:=fun i=>match zs i with
  | .lv q=>q
  | _=>0
 refine ⟨gs,w,sl,g,q,rfl,hsz,hg,hj,hr,⟨fun i x h1 h2=>?_,h.tr.ti.clean,h.tr.ti.words,fun j x a hx ha=>?_,h.tr.low⟩,h.mem.ok,RS,h.mem.us2,fun k hk=>?_⟩
 ·obtain ⟨q',hq'⟩:=hlv i h1 (idx_lt h2)
  have hs:=h.wk i x h1 h2
  rw[hq'] at hs
  have e:q i=q':=by show (match zs i with | .lv q=>q | _=>0)=q';rw[hq']
  rw[e]
  exact hs
 ·rcases h.tr.kn j x a hx ha with h1 | ⟨h1,h2,h3⟩
  ·exact h1
  ·obtain ⟨q,hq⟩:=hall x.g h1 h2
   rw[hq] at h3
   exact absurd trivial h3
 ·obtain ⟨i,h1,h2,h3⟩:=h.mem.jb1 k hk
  refine h.mem.jb3 k i h3 fun e=>?_
  obtain ⟨q,hq⟩:=hall i h1 h2
  rw[hq] at e
  exact e.elim
end
end Go.Proofs.Ytpdemelchhkfaaa.Cs

/-
  A piece of a call, from the middle on: it returns in company what it returns alone.
-/
namespace Go.Proofs.Ytpdemelchhkfaaa.Cs
open Go.Conc
def PostE (Post:Value→World→Prop) (e:Ending) (w':World):Prop:=∃v,e=.returned v∧Post v w'
section
variable {P:Program} {Post:Value→World→Prop} {fn:FuncId} {f:Func} {x:Array Value} {cs:List Frame} {w:World}
theorem reach_of_arrives (hf:P.funcs[fn]? = some f) {m:Machine} {g:Goroutine} (hm:lone g.frame g.callers w=m) {e:Exit} {a':Act} {w':World} (hq:bodyPost P f (PostE Post) e a' w') (h:Arrives P m (mkF fn #[] [] .run) [] cs e a' w'):Reach P cs Post g w:=by
 have hat:∀a todo,(mkF fn #[] [] .run).at a todo={ mkF fn a.tmps todo .run with defers:=a.defers }:=fun a todo=>rfl
 subst hm
 cases e with
 | normal =>
  obtain ⟨hd,v,hr,u,hu,hp⟩:=hq
  cases hu
  obtain ⟨n,hn⟩:=Steps.trans h (.one step_end)
  exact ⟨n,_,w',v,hn,⟨rfl,hd,rfl,f,hf,hr⟩,hp⟩
 | ret =>
  obtain ⟨hd,v,hr,u,hu,hp⟩:=hq
  cases hu
  obtain ⟨todo,n,hn⟩:=h
  exact ⟨n,_,w',v,hn,⟨rfl,hd,rfl,f,hf,hr⟩,hp⟩
 | panic chain =>
  obtain ⟨_,u,hu,_⟩:=hq
  cases hu
 | outgrown =>
  obtain ⟨u,hu,_⟩:=hq
  cases hu
 | exit id=>exact hq.elim
 | goto l=>exact hq.elim
theorem reach_code (hf:P.funcs[fn]? = some f) {c:Code} (h:c.wp P (bodyPost P f (PostE Post)) ⟨x,[]⟩ w):Reach P cs Post (G (mkF fn x [.code c] .run) cs) w:=by
 obtain ⟨e,a',w',hq,harr⟩:=h (mkF fn #[] [] .run) [] cs
 exact reach_of_arrives hf rfl hq harr
theorem reach_region (hf:P.funcs[fn]? = some f) {ops:Array Oper} {l:List Nat} {c:Code} (h:wpOps P ops (Exit.then (c.wp P (bodyPost P f (PostE Post))) (bodyPost P f (PostE Post))) l ⟨x,[]⟩ w):Reach P cs Post (G (mkF fn x [.inRegion ops l,.code c] .run) cs) w:=by
 obtain ⟨e,a1,w1,hq,harr⟩:=wp_ops l ⟨x,[]⟩ w h (mkF fn #[] [] .run) [.code c] cs
 cases e with
 | normal =>
  obtain ⟨e2,a2,w2,hq2,harr2⟩:=hq (mkF fn #[] [] .run) [] cs
  exact reach_of_arrives hf rfl hq2 (.of_steps harr harr2)
 | exit id=>exact hq.elim
 | goto l=>exact hq.elim
 | ret=>exact reach_of_arrives (e:=.ret) hf rfl hq (.pass (x:=.code c) rfl (fun _ _=>.inl (by simp)) harr)
 | panic ch=>exact reach_of_arrives (e:=.panic ch) hf rfl hq (.pass (x:=.code c) rfl (fun _ _=>.inl (by simp)) harr)
 | outgrown=>exact reach_of_arrives (e:=.outgrown) hf rfl hq (.pass (x:=.code c) rfl (fun _ _=>.inl (by simp)) harr)
end
variable [Fns]
section
variable {P:Program} {Post:Value→World→Prop} {c:List Frame} {E:Env} {wl w:World}
theorem InCall.mid {fn:FuncId} (hf:HasF P fn) {x y:Array Value} (hx:LR E x y) (hw:WR P E wl w) (hb:Fns.G≤wl.heap.size) {todo:List Item} (ht:todo.all (itemOk P)=true) (hr:∀τ,Reach P [trap P] Post (G (mkF fn x todo .run) [trap P]) (wl.tp τ)) :
  InCall P Post c E (G (mkF fn x todo .run) [trap P]) wl (G (mkF fn y todo .run) c) w :=
 ⟨.mk' hf hx ht (.inl rfl) .base,hw,hb,fun τ _=>hr τ⟩
end
end Go.Proofs.Ytpdemelchhkfaaa.Cs

/-
  What is read in company, laid into a lone world, frozen; and what a lone world tells, told in company.
-/
namespace Go.Proofs.Ytpdemelchhkfaaa.Cs
open Go.Conc Go.RowKit
variable [Fns]
structure Cp (P:Program) (E:Env) (wl w:World):Prop where
 wr:WR P E wl w
 big:Fns.G≤wl.heap.size
 sh:∀b q s o,E b=some (q,s,o)→o=false
 top:∀b,wl.heap.size≤b→E b=none
structure CpLe (E E':Env) (wl wl':World):Prop where
 le:E.le E'
 size:wl.heap.size≤wl'.heap.size
 old:∀b,b<wl.heap.size→wl'.heap[b]? = wl.heap[b]?
 os:wl'.os=wl.os
 tape:wl'.tape=wl.tape
 output:wl'.output=wl.output
omit [Fns] in
theorem CpLe.refl (E:Env) (wl:World):CpLe E E wl wl:=⟨E.le_refl,Nat.le_refl _,fun _ _=>rfl,rfl,rfl,rfl⟩
omit [Fns] in
theorem CpLe.trans {A B C:Env} {u v w:World} (h:CpLe A B u v) (k:CpLe B C v w):CpLe A C u w :=
 ⟨Env.le_trans h.le k.le,Nat.le_trans h.size k.size,fun b hb=>(k.old b (Nat.lt_of_lt_of_le hb h.size)).trans (h.old b hb),k.os.trans h.os,k.tape.trans h.tape,k.output.trans h.output⟩
omit [Fns] in
theorem CpLe.cell {E E':Env} {wl wl':World} (h:CpLe E E' wl wl') {a:Addr} {v:Value} (hc:wl.cell? a=some v):wl'.cell? a=some v:=by
 have hb:a.block<wl.heap.size:=World.block_lt_of_cell? _ _ hc
 have:=h.old a.block hb
 unfold World.cell? at hc ⊢
 rw[this]
 exact hc
section
variable {P:Program} {w:World}
theorem Cp.nil (w:World):Cp P (fun _=>none) { w with heap:=Array.replicate Fns.G (.cells #[] 0) } w :=
 ⟨⟨fun _ _ _ e=>(by cases e),fun _ _ _ e=>(by cases e),fun _ _ _ _ _ _ e=>(by cases e),fun _ _ e=>(by cases e)⟩,by simp,fun _ _ _ _ e=>(by cases e),fun _ _=>rfl⟩
theorem Cp.row {E:Env} {wl:World} (h:Cp P E wl w) {TJ:TypeId} (hJ:P.info? TJ=none) {q s:Nat} {y:Array Value} {T':TypeId} {fr:Nat × Nat} (hq:w.heap[q]? = some (.cells y T' fr)) (x:Array Value) (hx:∀(i:Nat) u,x[i]? = some u→∃v,y[i+s]? = some v∧VR E u v) :
  ∃E',Cp P E' (wl.alloc (.cells x TJ (0,x.size))) w∧CpLe E E' wl (wl.alloc (.cells x TJ (0,x.size)))∧(∀o,AR E' ⟨wl.heap.size,o,none⟩ ⟨q,o+s,none⟩)∧∀i u,x[i]? = some u→(wl.alloc (.cells x TJ (0,x.size))).cell? ⟨wl.heap.size,i,none⟩=some u:=by
 let E':Env:=fun b=>if b=wl.heap.size then some (q,s,false) else E b
 have hn:E wl.heap.size=none:=h.top _ (Nat.le_refl _)
 have hle:E.le E':=fun b x e=>by
  show (if b=wl.heap.size then some (q,s,false) else E b)=some x
  rw[if_neg (fun e'=>by rw[e',hn] at e;cases e)]
  exact e
 have hsz:(wl.alloc (.cells x TJ (0,x.size))).heap.size=wl.heap.size+1:=by simp
 have hold:∀b,b<wl.heap.size→(wl.alloc (.cells x TJ (0,x.size))).heap[b]? = wl.heap[b]?:=fun b hb=>Below.heap_alloc wl _ b hb
 have hnew:(wl.alloc (.cells x TJ (0,x.size))).heap[wl.heap.size]? = some (.cells x TJ (0,x.size)):=heap_alloc_new wl _
 have hE:∀b q' s' o,E' b=some (q',s',o)→(b=wl.heap.size∧q'=q∧s'=s∧o=false)∨E b=some (q',s',o):=fun b q' s' o e=>by
  have e':(if b=wl.heap.size then some (q,s,false) else E b)=some (q',s',o):=e
  by_cases hb:b=wl.heap.size
  ·rw[if_pos hb] at e'
   cases e'
   exact .inl ⟨hb,rfl,rfl,rfl⟩
  ·rw[if_neg hb] at e'
   exact .inr e'
 refine ⟨E',⟨⟨fun b c s' e=>?_,fun b c s' e=>?_,fun b b' c s' s'' o e e2=>?_,fun b x' e=>?_⟩,by rw[hsz];exact Nat.le_succ_of_le h.big,fun b q' s' o e=>?_,fun b hb=>?_⟩,⟨hle,by rw[hsz];exact Nat.le_succ _,hold,rfl,rfl,rfl⟩,fun o=>⟨s,false,by show (if wl.heap.size=wl.heap.size then _ else _)=_;rw[if_pos rfl],rfl,rfl,h.big,fun e=>by cases e⟩,fun i u hu=>?_⟩
 ·rcases hE b c s' true e with ⟨_,_,_,e'⟩ | e'
  ·cases e'
  ·have:=h.sh _ _ _ _ e'
   cases this
 ·rcases hE b c s' false e with ⟨rfl,rfl,rfl,_⟩ | e'
  ·exact ⟨x,TJ,y,T',fr,hnew,hJ,hq,fun i u hu=>by
    obtain ⟨v,h1,h2⟩:=hx i u hu
    exact ⟨v,h1,h2.mono hle⟩⟩
  ·obtain ⟨x',T,y',T2,fr',h1,h2,h3,h4⟩:=h.wr.shared b c s' e'
   exact ⟨x',T,y',T2,fr',(hold b (h.wr.lt e').1).trans h1,h2,h3,fun i u hu=>by
    obtain ⟨v,k1,k2⟩:=h4 i u hu
    exact ⟨v,k1,k2.mono hle⟩⟩
 ·rcases hE b c s' true e with ⟨_,_,_,e'⟩ | e'
  ·cases e'
  ·have:=h.sh _ _ _ _ e'
   cases this
 ·obtain ⟨q',s',o⟩:=x'
  rcases hE b q' s' o e with ⟨rfl,_⟩ | e'
  ·exact h.big
  ·exact h.wr.low b _ e'
 ·rcases hE b q' s' o e with ⟨_,_,_,e'⟩ | e'
  ·exact e'
  ·exact h.sh _ _ _ _ e'
 ·rw[hsz] at hb
  show (if b=wl.heap.size then some (q,s,false) else E b)=none
  rw[if_neg (by omega)]
  exact h.top b (by omega)
 ·rw[cell_of_row _ _ _ _ _ _ hnew]
  exact hu
end
end Go.Proofs.Ytpdemelchhkfaaa.Cs

/-
  Whatever a frame holds is related to something.
-/
namespace Go.Proofs.Ytpdemelchhkfaaa.Cs
variable [Fns]
theorem pick_row {E:Env} {c:Array Value} (ih:∀(i:Nat) (hi:i<c.size),∃u,VR E u c[i]):∃x,LR E x c:=by
 refine ⟨Array.ofFn fun i:Fin c.size=>(ih i i.2).choose,by simp,fun i u v hu hv=>?_⟩
 obtain ⟨hi,rfl⟩:=Array.getElem?_eq_some_iff.1 hv
 obtain ⟨hj,rfl⟩:=Array.getElem?_eq_some_iff.1 hu
 simp only[Array.getElem_ofFn]
 exact (ih i hi).choose_spec
theorem junkN (E:Env):∀(n:Nat) (v:Value),SizeOf.sizeOf v<n→∃u,VR E u v
 | 0,_,h=>absurd h (Nat.not_lt_zero _)
 | n+1,v,h=>by
  cases v with
  | agg c =>
   obtain ⟨x,hx⟩:=pick_row (E:=E) (c:=c) fun i hi=>junkN E n c[i] (by
    have:=Array.sizeOf_getElem c i hi
    simp only[Value.agg.sizeOf_spec] at h
    omega)
   exact ⟨_,.mkAgg hx⟩
  | tuple c =>
   obtain ⟨x,hx⟩:=pick_row (E:=E) (c:=c) fun i hi=>junkN E n c[i] (by
    have:=Array.sizeOf_getElem c i hi
    simp only[Value.tuple.sizeOf_spec] at h
    omega)
   exact ⟨_,.mkTuple hx⟩
  | bool b=>exact ⟨_,.bool b⟩
  | nilIface=>exact ⟨_,.nilIface⟩
  | _=>exact ⟨_,.any _ rfl⟩
theorem junk (E:Env) (v:Value):∃u,VR E u v:=junkN E _ v (Nat.lt_succ_self _)
end Go.Proofs.Ytpdemelchhkfaaa.Cs

/-
  A stack of calls, from the middle on: it returns in company what it returns alone.
-/
namespace Go.Proofs.Ytpdemelchhkfaaa.Cs
open Go.Conc
variable [Fns]
section
variable {P:Program} {Post:Value→World→Prop} {c:List Frame} {E:Env} {wl w:World}
end
end Go.Proofs.Ytpdemelchhkfaaa.Cs

/-
  The last call beside goroutines that only leave: its frame is the lowest one; where it returns the run ends.
-/
namespace Go.Proofs.Ytpdemelchhkfaaa.Cs
open Go.Conc
variable [Fns]
section
variable {P:Program} {Post:Value→World→Prop}
theorem InCall.atEnd {E:Env} {gl g:Goroutine} {wl w:World} (hin:InCall P Post [] E gl wl g w) (hs:Stop [trap P] gl) {fn0:FuncId} {f:Func} {t:Nat} (hl:lastG g=fn0) (hf:P.funcs[fn0]? = some f) (hr:f.results=#[.tmp t]) (hn:P.inits.idxOf? fn0=none) :
  ∃v v' wl2,Post v wl2∧VR E v v'∧g.status=.running∧∀w,stepG P true g w=.ended (.done v') w #[]:=by
 obtain ⟨v,hlv,hp⟩:=stop_post hin.gr hs (hin.live (aligned wl w) (fun i q hi=>aligned_low q hi))
 obtain ⟨fn,x,y,todo,mode,l,l',rfl,rfl,hf',hx,ht,hm,hcr⟩:=hin.gr.ex
 obtain ⟨hm2,hl2⟩:=hs
 have hm2':mode=.returning:=hm2
 have hl2':l=[trap P]:=hl2
 subst hm2' hl2'
 have hlc:l'=[]:=by
  have hlen:∀{a b:List Frame},CR P E [trap P] [] a b→a=[trap P]→b=[]:=fun {a b} hab e=>by
   cases hab with
   | base=>rfl
   | cons hf2 hx2 ht2 h2 =>
    exfalso
    injection e with e1 e2
    have:=congrArg Frame.todo e1
    simp only[mkF,trap] at this
    rw[this] at ht2
    simp[pend,itemOk] at ht2
  exact hlen hcr rfl
 subst hlc
 have hfn:fn=fn0:=hl
 subst hfn
 obtain ⟨_,_,_,f2,hfn2,hr2⟩:=hlv
 have e2:f2=f:=by
  have h1:P.funcs[fn]? = some f2:=hfn2
  rw[hf] at h1
  injection h1 with h1
  exact h1.symm
 subst e2
 have hr3:(results f2 x).run P (wl.tp (aligned wl w))=.ok v (wl.tp (aligned wl w)):=hr2
 rw[(resultsC_tmp (P:=P) hr x (wl.tp (aligned wl w))).1] at hr3
 injection hr3 with hv _
 subst hv
 refine ⟨_,_,_,hp,lr_getD hx t,rfl,fun w=>?_⟩
 have h1:=(resultsC_tmp (P:=P) hr y w).1
 have h2:=(resultsC_tmp (P:=P) hr y w).2
 have h3:(results f2 y).runT P w #[]=(.ok (y.getD t undef) w,#[]):=by
  refine Prod.ext ?_ ?_
  ·rw[Sem.runT_fst];exact h1
  ·exact h2
 simp only[G,stepG,unwind,mkF,hf,doReturn,h3,hn]
 rfl
end
end Go.Proofs.Ytpdemelchhkfaaa.Cs
