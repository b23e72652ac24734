import Derived.Test.YtpdemelchhkfaaaJn1
namespace Go.Proofs.Ytpdemelchhkfaaa
namespace Cs
variable [Fns]
structure cT (P:Program) (E:Env) (wl w:World):Prop where
 wr:WR P E wl w
 ta:TA wl w
 big:Fns.G≤wl.heap.size
def Ran (P:Program) {α β:Type} (R:Env→α→β→Prop) (E:Env) (m:Sem β) (w:World) (es:Array Event) (al:α) (wl':World):Prop :=
 ∃E' a w' es',m.runT P w es=(.ok a w',es++es')∧R E' al a∧cT P E' wl' w'∧(∀e ∈ es',ef E' e)∧FC E E' w w'
def Out (P:Program) {α β:Type} (R:Env→α→β→Prop) (E:Env) (m:Sem β) (w:World) (es:Array Event):Result α→Prop
 | .ok al wl'=>Ran P R E m w es al wl'
 | .halt h _=>lJ h
section
variable {P:Program} {α β:Type} {R:Env→α→β→Prop} {E:Env} {wl w:World}
omit [Fns] in
theorem FC.set {E:Env} {w w':World} {bl b s:Nat} (e:E bl=some (b,s,true)) (h1:w'.os=w.os) (h2:w'.tape=w.tape) (h3:w'.output=w.output) (h4:w'.heap.size=w.heap.size) (h5:∀i,b≠i→w'.heap[i]? = w.heap[i]?):FC E E w w' :=
 ⟨E.le_refl,h1,h2,h3,by omega,fun c _ hn=>h5 c (fun hc=>hn bl s (by rw[←hc];exact e)),fun _ _ _ _ h=>.inl h⟩
theorem Ran.next {m m':Sem β} {w':World} {es:Array Event} {al:α} {wl':World} {e:Event} {E':Env} (hstep:m.runT P w es=m'.runT P w' (es.push e)) (he:ef E' e) (hf:FC E E' w w') (h:Ran P R E' m' w' (es.push e) al wl'):Ran P R E m w es al wl':=by
 obtain ⟨E2,a,w2,es2,h1,h2,h3,h4,h5⟩:=h
 refine ⟨E2,a,w2,#[e]++es2,by rw[hstep,h1,←Array.append_singleton,Array.append_assoc],h2,h3,fun x hx=>?_,hf.trans h5⟩
 rcases Array.mem_append.1 hx with hx | hx
 ·simp at hx;rw[hx];exact he.mono h5.le
 ·exact h4 x hx
theorem Ran.quiet {m m':Sem β} {w':World} {es:Array Event} {al:α} {wl':World} {E':Env} (hstep:m.runT P w es=m'.runT P w' es) (hf:FC E E' w w') (h:Ran P R E' m' w' es al wl'):Ran P R E m w es al wl':=by
 obtain ⟨E2,a,w2,es2,h1,h2,h3,h4,h5⟩:=h
 exact ⟨E2,a,w2,es2,by rw[hstep,h1],h2,h3,h4,hf.trans h5⟩
theorem VR.one {u v:Value} (h:VR E u v):(∀c,u≠.agg c)→(∀c,u≠.tuple c)→(∀c,v≠.agg c)∧∀c,v≠.tuple c:=fun h1 h2=>by
 cases h with
 | agg a b=>exact absurd rfl (h1 _)
 | tuple a b=>exact absurd rfl (h2 _)
 | any v h=>exact ⟨(fun c e=>by subst e;cases h),(fun c e=>by subst e;cases h)⟩
 | _=>exact ⟨(fun c e=>by cases e),(fun c e=>by cases e)⟩
omit [Fns] in
theorem run_store {α:Type} (P:Program) (a:Addr) (v:Value) (k:Sem α) (w:World) (h1:∀c,v≠.agg c) (h2:∀c,v≠.tuple c):(Sem.store .plain a v k).run P w=(match w.cell? a with
  | some _ => if w.frozen? a then .halt (.unsupported (.unsafePointer "a write to bytes that a string shares")) w else k.run P (w.setCell a v)
  | none=>match w.farStore P a v false with
   | .ok (w,_)=>k.run P w
   | .error h=>.halt h w):=by
 cases v <;> first | rfl | exact absurd rfl (h1 _) | exact absurd rfl (h2 _)
omit [Fns] in
theorem sE {α:Type} (P:Program) (a:Addr) (v:Value) (k:Sem α) (w:World) (es:Array Event) (h1:∀c,v≠.agg c) (h2:∀c,v≠.tuple c) {x:Value} (hx:w.cell? a=some x) (hf:w.frozen? a=false):(Sem.store .plain a v k).runT P w es=k.runT P (w.setCell a v) (es.push ⟨.cell a,true,false⟩):=by
 cases v <;> first | exact absurd rfl (h1 _) | exact absurd rfl (h2 _) | (simp only[Sem.runT,hx,hf];rfl)
omit [Fns] in
theorem eE {w:World} {a:Addr} {c:Array Value} {T:TypeId} {fr:Nat × Nat} (h:w.heap[a.block]? = some (.cells c T fr)):w.frozen? a=(decide (fr.1≤a.off) && decide (a.off<fr.2)):=by
 unfold World.frozen?
 rw[h]
omit [Fns] in
theorem fT (w:World) (a:Addr) (n:Nat) {c:Array Value} {T:TypeId} {fr:Nat × Nat} (h:w.heap[a.block]? = some (.cells c T fr)) (i:Nat):(w.freeze a n).heap[i]? = if a.block=i then some (.cells c T (if n=0 then fr else (if fr.1==fr.2 then (a.off,a.off+n) else (min fr.1 a.off,max fr.2 (a.off+n))))) else w.heap[i]?:=by
 unfold World.freeze
 by_cases hn:n=0
 ·rw[if_pos hn,if_pos hn]
  by_cases e:a.block=i
  ·rw[if_pos e,←e,h]
  ·rw[if_neg e]
 ·rw[if_neg hn,if_neg hn]
  show (w.heap.modify _ _)[i]? = _
  rw[ku]
  by_cases e:a.block=i
  ·rw[if_pos e,if_pos e,←e,h]
   rfl
  ·rw[if_neg e,if_neg e]
omit [Fns] in
theorem bN (w:World) (a:Addr) (n:Nat) (h:∀c T fr,w.heap[a.block]?≠some (.cells c T fr)) (i:Nat):(w.freeze a n).heap[i]? = w.heap[i]?:=by
 unfold World.freeze
 by_cases hn:n=0
 ·rw[if_pos hn]
 ·rw[if_neg hn]
  show (w.heap.modify _ _)[i]? = _
  rw[ku]
  by_cases e:a.block=i
  ·rw[if_pos e]
   subst e
   cases ho:w.heap[a.block]? with
   | none=>rfl
   | some o =>
    cases o <;> first | rfl | exact absurd ho (h _ _ _)
  ·rw[if_neg e]
omit [Fns] in
theorem fy (w:World) (a:Addr) (n:Nat):(w.freeze a n).os=w.os∧(w.freeze a n).tape=w.tape∧(w.freeze a n).output=w.output∧(w.freeze a n).heap.size=w.heap.size∧(w.freeze a n).drawn=w.drawn:=by
 unfold World.freeze
 by_cases hn:n=0
 ·rw[if_pos hn];exact ⟨rfl,rfl,rfl,rfl,rfl⟩
 ·rw[if_neg hn];exact ⟨rfl,rfl,rfl,by simp,rfl⟩
theorem Out.next {m m':Sem β} {w':World} {es:Array Event} {r:Result α} {e:Event} {E':Env} (hstep:m.runT P w es=m'.runT P w' (es.push e)) (he:ef E' e) (hf:FC E E' w w') (h:Out P R E' m' w' (es.push e) r):Out P R E m w es r:=by
 cases r with
 | ok al wl'=>exact Ran.next hstep he hf h
 | halt x v=>exact h
theorem Out.quiet {m m':Sem β} {w':World} {es:Array Event} {r:Result α} {E':Env} (hstep:m.runT P w es=m'.runT P w' es) (hf:FC E E' w w') (h:Out P R E' m' w' es r):Out P R E m w es r:=by
 cases r with
 | ok al wl'=>exact Ran.quiet hstep hf h
 | halt x v=>exact h
theorem qm (h:WR P E wl w) {al a:Addr} (ha:AR E al a) (what:String):∃s,wl.noCell al what=.stuck s:=by
 obtain ⟨s,o,e1,e2,e3,_⟩:=ha
 unfold World.noCell
 cases o
 ·obtain ⟨x,T1,y,T2,fr2,k1,_,k2,k3⟩:=h.shared _ _ _ e1
  rw[k1]
  exact ⟨_,rfl⟩
 ·obtain ⟨rfl,ol,o,k1,k2,k3⟩:=h.own _ _ _ e1
  rw[k1]
  cases k3 <;> exact ⟨_,rfl⟩
theorem jU (h:WR P E wl w) {al a:Addr} (ha:AR E al a) (at':Bool):∃s,wl.farLoad P al at'=.error (.stuck s):=by
 obtain ⟨s, hs⟩ := qm h ha "load: no such cell"
 refine ⟨s,?_⟩
 obtain ⟨sh,o,e1,e2,e3,_⟩:=ha
 unfold World.farLoad
 cases o
 ·obtain ⟨x,T1,y,T2,fr2,k1,_,k2,k3⟩:=h.shared _ _ _ e1
  rw[k1,hs]
 ·obtain ⟨rfl,ol,o,k1,k2,k3⟩:=h.own _ _ _ e1
  rw[k1]
  cases k3 <;> simp only[hs]
theorem iX (h:WR P E wl w) {al a:Addr} (ha:AR E al a) (v:Value) (at':Bool):∃s,wl.farStore P al v at'=.error (.stuck s):=by
 obtain ⟨s, hs⟩ := qm h ha "store: no such cell"
 refine ⟨s,?_⟩
 obtain ⟨sh,o,e1,e2,e3,_⟩:=ha
 unfold World.farStore
 cases o
 ·obtain ⟨x,T1,y,T2,fr2,k1,_,k2,k3⟩:=h.shared _ _ _ e1
  rw[k1,hs]
 ·obtain ⟨rfl,ol,o,k1,k2,k3⟩:=h.own _ _ _ e1
  rw[k1]
  cases k3 <;> simp only[hs]
set_option maxHeartbeats 1000000 in
theorem SR.run {ml:Sem α} {m:Sem β} (h:SR P R E ml m):∀wl w es,cT P E wl w→Out P R E m w es (ml.run P wl):=by
 induction h with
 | pure h =>
  intro wl w es hb
  exact ⟨_,_,w,#[],by simp[Sem.runT],h,hb,fun e he=>by simp at he,FC.refl _ _⟩
 | rE h =>
  intro wl w es hb
  obtain ⟨x,w',h1,h2⟩:=h wl
  rw[h1]
  exact h2
 | @load E al a kl k ha hk ih =>
  intro wl w es hb
  cases hc:wl.cell? al with
  | none =>
   obtain ⟨s,hs⟩:=jU hb.wr ha (Mode.plain==.atomic)
   simp only[Sem.run,hc,hs]
   exact trivial
  | some u =>
   simp only[Sem.run,hc]
   obtain ⟨v,hv1,hv2⟩:=hb.wr.cell ha hc
   refine Out.next (e:=⟨.cell a,false,false⟩) (by simp only[Sem.runT,hv1];rfl) ?_ (FC.refl _ _) (ih u v hv2 wl w _ hb)
   obtain ⟨s,o,e1,_⟩:=ha
   exact .read e1
 | @store E al a u v kl k ha hv hk ih =>
  intro wl w es hb
  by_cases hag:∃c,u=.agg c
  ·obtain ⟨c,rfl⟩:=hag
   simp only[Sem.run]
   exact trivial
  by_cases htu:∃c,u=.tuple c
  ·obtain ⟨c,rfl⟩:=htu
   simp only[Sem.run]
   exact trivial
  have n1:∀c,u≠.agg c:=fun c e=>hag ⟨c,e⟩
  have n2:∀c,u≠.tuple c:=fun c e=>htu ⟨c,e⟩
  obtain ⟨n3,n4⟩:=hv.one n1 n2
  rw[run_store P al u kl wl n1 n2]
  cases hc:wl.cell? al with
  | none =>
   obtain ⟨s,hs⟩:=iX hb.wr ha u false
   simp only[hs]
   exact trivial
  | some u0 =>
   cases hfz:wl.frozen? al
   case true =>
    simp only[if_true]
    exact fun g e=>by cases e
   simp only[Bool.false_eq_true,if_false]
   obtain ⟨v0,hv1,hv2⟩:=hb.wr.cell ha hc
   obtain ⟨s,o,e1,e2,e3,_⟩:=ha
   obtain ⟨c,T,fr,g1,g2,g3⟩:=jY hc
   cases o
   ·obtain ⟨xs,T1,y,T2,fr2,k1,_,k2,k3⟩:=hb.wr.shared _ _ _ e1
    rw[g1] at k1
    cases k1
    rw[eE g1] at hfz
    have:=(Array.getElem?_eq_some_iff.1 g3).1
    simp at hfz
    omega
   ·obtain ⟨rfl,ol,oo,k1,k2,k3⟩:=hb.wr.own _ _ _ e1
    rw[g1] at k1
    cases k1
    cases k3 with
    | @cells _ y _ _ hl =>
     have hoff:a.off=al.off:=by rw[e2];rfl
     have hsp:a.spot=none:=by rw[e3,g2]
     have hfz2:w.frozen? a=false:=by rw[eE k2,hoff,←eE g1];exact hfz
     have hW:WR P E (wl.setCell al u) (w.setCell a v):=hb.wr.kq e1 (.cells T fr (hl.set al.off hv)) (eZ wl al u g1 g2) (fun i=>by rw[eZ w a v k2 hsp,hoff])
     have hB:cT P E (wl.setCell al u) (w.setCell a v):=⟨hW,hb.ta,by unfold World.setCell;simpa using hb.big⟩
     refine Out.next (e:=⟨.cell a,true,false⟩) (sE P a v k w es n3 n4 hv1 hfz2) (.write e1) (FC.set e1 rfl rfl rfl (by unfold World.setCell;simp) (fun i hi=>by rw[eZ w a v k2 hsp,if_neg hi])) (ih _ _ _ hB)
 | @new E ol o kl k ho hk ih =>
  intro wl w es hb
  obtain ⟨hle,hW⟩:=hb.wr.new hb.big ho
  have hB:cT P (E.put wl.heap.size w.heap.size) { wl with heap:=wl.heap.push ol } { w with heap:=w.heap.push o }:=⟨hW,hb.ta,by have:=hb.big;simp;omega⟩
  have hf:FC E (E.put wl.heap.size w.heap.size) w { w with heap:=w.heap.push o }:=by
   refine ⟨hle,rfl,rfl,rfl,by simp,fun c hc _=>?_,fun b c s o' e=>?_⟩
   ·show (w.heap.push o)[c]? = _
    rw[Array.getElem?_push,if_neg (by omega)]
   ·unfold Env.put at e
    by_cases eb:b=wl.heap.size
    ·rw[if_pos eb] at e
     cases e
     exact .inr ⟨Nat.le_refl _,by simp,rfl⟩
    ·rw[if_neg eb] at e
     exact .inl e
  exact Out.quiet (m':=k w.heap.size) (w':={ w with heap:=w.heap.push o }) rfl hf (ih _ _ _ hle (by unfold Env.put;rw[if_pos rfl]) hb.big _ _ _ hB)
 | @shape E bl b s o kl k h hk ih =>
  intro wl w es hb
  refine Out.quiet rfl (FC.refl _ _) (ih _ _ ?_ wl w es hb)
  cases o
  ·obtain ⟨xs,T1,y,T2,fr2,k1,k0,k2,k3⟩:=hb.wr.shared _ _ _ h
   exact .inr ⟨rfl,T1,xs.size,T2,y.size,by unfold World.shape?;rw[k1],by unfold World.shape?;rw[k2],k0⟩
  ·obtain ⟨rfl,ol,oo,k1,k2,k3⟩:=hb.wr.own _ _ _ h
   refine .inl ⟨rfl,?_⟩
   unfold World.shape?
   rw[k1,k2]
   cases k3 with
   | cells T fr hl=>simp only[hl.size]
   | _=>rfl
 | @freeze E al a n kl k h ho hk ih =>
  intro wl w es hb
  obtain ⟨_,ol,oo,k1,k2,k3⟩:=hb.wr.own _ _ _ h
  have r1:=fy wl al n
  have r2:=fy w a n
  have hB:cT P E (wl.freeze al n) (w.freeze a n):=by
   refine ⟨?_,fun i q=>by rw[r1.2.1,r1.2.2.2.2,r2.2.1,r2.2.2.2.2];exact hb.ta i q,by rw[r1.2.2.2.1];exact hb.big⟩
   cases k3 with
   | @cells xs ys T fr hl =>
    refine hb.wr.kq h (.cells T (if n=0 then fr else (if fr.1==fr.2 then (al.off,al.off+n) else (min fr.1 al.off,max fr.2 (al.off+n)))) hl) (fT wl al n k1) (fun i=>?_)
    rw[fT w a n k2,ho]
   | iter s p =>
    refine hb.wr.kq h (.iter s p) (fun i=>?_) (fun i=>?_)
    ·rw[bN wl al n (fun c T fr e=>by rw[k1] at e;cases e)]
     by_cases e:al.block=i
     ·rw[if_pos e,←e,k1]
     ·rw[if_neg e]
    ·rw[bN w a n (fun c T fr e=>by rw[k2] at e;cases e)]
     by_cases e:a.block=i
     ·rw[if_pos e,←e,k2]
     ·rw[if_neg e]
   | number l hn =>
    refine hb.wr.kq h (.number l hn) (fun i=>?_) (fun i=>?_)
    ·rw[bN wl al n (fun c T fr e=>by rw[k1] at e;cases e)]
     by_cases e:al.block=i
     ·rw[if_pos e,←e,k1]
     ·rw[if_neg e]
    ·rw[bN w a n (fun c T fr e=>by rw[k2] at e;cases e)]
     by_cases e:a.block=i
     ·rw[if_pos e,←e,k2]
     ·rw[if_neg e]
  refine Out.quiet (m':=k) (w':=w.freeze a n) rfl (FC.set h r2.1 r2.2.1 r2.2.2.1 r2.2.2.2.1 (fun i hi=>?_)) (ih _ _ _ hB)
  cases hq:w.heap[a.block]? with
  | none=>rw[bN w a n (fun c T fr e=>by rw[hq] at e;cases e)]
  | some q =>
   cases q with
   | cells c T fr=>rw[fT w a n hq,if_neg hi]
   | _=>rw[bN w a n (fun c T fr e=>by rw[hq] at e;cases e)]
 | @getObj E bl b s o kl k h hk ih =>
  intro wl w es hb
  cases o
  ·obtain ⟨xs,T1,y,T2,fr2,k1,k0,k2,k3⟩:=hb.wr.shared _ _ _ h
   simp only[Sem.run,k1];exact trivial
  ·obtain ⟨rfl,ol,oo,k1,k2,k3⟩:=hb.wr.own _ _ _ h
   have k3':=k3
   cases k3 with
   | cells T fr hl=>simp only[Sem.run,k1];exact trivial
   | iter p q =>
    simp only[Sem.run,k1]
    exact Out.next (e:=⟨.obj b,false,false⟩) (by simp only[Sem.runT,k2,Obj.isChan]) (.obj false h) (FC.refl _ _) (ih _ _ k3' wl w _ hb)
   | number l hn =>
    simp only[Sem.run,k1]
    exact Out.next (e:=⟨.obj b,false,false⟩) (by simp only[Sem.runT,k2,Obj.isChan]) (.obj false h) (FC.refl _ _) (ih _ _ k3' wl w _ hb)
 | @dR E bl b s kl m h =>
  intro wl w es hb
  obtain ⟨xs,T1,y,T2,fr2,k1,k0,k2,k3⟩:=hb.wr.shared _ _ _ h
  simp only[Sem.run,k1];exact trivial
 | @setObj E bl b s o xo yo kl k h ho hk ih =>
  intro wl w es hb
  cases o
  ·obtain ⟨xs,T1,y,T2,fr2,k1,k0,k2,k3⟩:=hb.wr.shared _ _ _ h
   simp only[Sem.run,k1];exact trivial
  ·obtain ⟨rfl,ol,oo,k1,k2,k3⟩:=hb.wr.own _ _ _ h
   have l1:=(Array.getElem?_eq_some_iff.1 k1).1
   have l2:=(Array.getElem?_eq_some_iff.1 k2).1
   have hB:cT P E { wl with heap:=wl.heap.setIfInBounds bl xo } { w with heap:=w.heap.setIfInBounds b yo }:=by
    refine ⟨hb.wr.kq h ho (fun i=>?_) (fun i=>?_),hb.ta,by simpa using hb.big⟩
    ·show (wl.heap.setIfInBounds bl xo)[i]? = _
     rw[Array.getElem?_setIfInBounds]
     by_cases e:bl=i
     ·rw[if_pos e,if_pos e,if_pos l1]
     ·rw[if_neg e,if_neg e]
    ·show (w.heap.setIfInBounds b yo)[i]? = _
     rw[Array.getElem?_setIfInBounds]
     by_cases e:b=i
     ·rw[if_pos e,if_pos e,if_pos l2]
     ·rw[if_neg e,if_neg e]
   have hcn:yo.isChan=false:=by cases ho <;> rfl
   have hf:FC E E w { w with heap:=w.heap.setIfInBounds b yo }:=FC.set h rfl rfl rfl (by simp) (fun i hi=>by
    show (w.heap.setIfInBounds b yo)[i]? = _
    rw[Array.getElem?_setIfInBounds,if_neg hi])
   cases k3 with
   | cells T fr hl=>simp only[Sem.run,k1];exact trivial
   | iter p q =>
    simp only[Sem.run,k1]
    exact Out.next (e:=⟨.obj b,true,false⟩) (by simp only[Sem.runT,k2,hcn]) (.obj true h) hf (ih _ _ _ hB)
   | number l hn =>
    simp only[Sem.run,k1]
    exact Out.next (e:=⟨.obj b,true,false⟩) (by simp only[Sem.runT,k2,hcn]) (.obj true h) hf (ih _ _ _ hB)
 | @choose E q kl k hk ih =>
  intro wl w es hb
  by_cases hq:q.forced=true
  ·simp only[Sem.run,hq,if_true]
   exact Out.quiet (by simp only[Sem.runT,hq,if_true]) (FC.refl _ _) (ih 0 wl w es hb)
  ·simp only[Sem.run,hq]
   have ht:wl.tape wl.drawn q=w.tape w.drawn q:=hb.ta 0 q
   rw[ht]
   have hB:cT P E { wl with drawn:=wl.drawn+1 } { w with drawn:=w.drawn+1 }:=⟨⟨hb.wr.own,hb.wr.shared,hb.wr.inj,hb.wr.low⟩,fun i q'=>by
    have:=hb.ta (1+i) q'
    show wl.tape (wl.drawn+1+i) q'=w.tape (w.drawn+1+i) q'
    rw[Nat.add_assoc,Nat.add_assoc]
    exact this,hb.big⟩
   exact Out.quiet (m':=k (q.cut (w.tape w.drawn q))) (w':={ w with drawn:=w.drawn+1 }) (by simp only[Sem.runT,hq];rfl) ⟨E.le_refl,rfl,rfl,rfl,Nat.le_refl _,fun _ _ _=>rfl,fun _ _ _ _ h=>.inl h⟩ (ih _ _ _ es hB)
 | program hk ih =>
  intro wl w es hb
  exact Out.quiet rfl (FC.refl _ _) (ih wl w es hb)
 | noRoom hk ih =>
  intro wl w es hb
  exact Out.next (e:=⟨.mark .noRoom,false,true⟩) rfl .noRoom (FC.refl _ _) (ih wl w _ hb)
def _root_.Go.World.tp (w:World) (τ:Nat→Question→Nat):World:={ w with tape:=τ }
def Loc (P:Program) {α:Type} (m:Sem α) (w:World) (a:α) (w':World):Prop :=
 w.drawn≤w'.drawn∧w'.tape=w.tape∧∀τ,(∀i q,w.drawn≤i→i<w'.drawn→τ i q=w.tape i q)→m.run P (w.tp τ)=.ok a (w'.tp τ)
omit [Fns] in
theorem Loc.step' {α:Type} {m m':Sem α} {w v w':World} {a:α} (h:Loc P m' v a w') (ht:w.tape=v.tape) (hd:w.drawn=v.drawn) (hs:∀τ,m.run P (w.tp τ)=m'.run P (v.tp τ)):Loc P m w a w':=by
 obtain ⟨h1,h2,h3⟩:=h
 refine ⟨by omega,by rw[ht];exact h2,fun τ hτ=>?_⟩
 rw[hs]
 exact h3 τ (by rw[←ht,←hd];exact hτ)
omit [Fns] in
theorem Loc.step {α:Type} {m m':Sem α} {w v w':World} {a:α} (h:Loc P m' v a w') (hs:∀τ,m.run P (w.tp τ)=m'.run P (v.tp τ)) (ht:w.tape=v.tape:=by rfl) (hd:w.drawn=v.drawn:=by rfl):Loc P m w a w':=h.step' ht hd hs
set_option maxHeartbeats 1000000 in
theorem SR.loc {ml:Sem α} {m:Sem β} (h:SR P R E ml m):∀wl w,cT P E wl w→∀al wl',ml.run P wl=.ok al wl'→Loc P ml wl al wl':=by
 induction h with
 | pure h =>
  intro wl w hb x wl' hr
  cases hr
  exact ⟨Nat.le_refl _,rfl,fun _ _=>rfl⟩
 | rE h =>
  intro wl w hb x wl' hr
  obtain ⟨y,w',h1,h2⟩:=h wl
  rw[h1] at hr
  cases hr
 | @load E al a kl k ha hk ih =>
  intro wl w hb x wl' hr
  cases hc:wl.cell? al with
  | none =>
   obtain ⟨s,hs⟩:=jU hb.wr ha (Mode.plain==.atomic)
   simp only[Sem.run,hc,hs] at hr
   cases hr
  | some u =>
   simp only[Sem.run,hc] at hr
   obtain ⟨v,hv1,hv2⟩:=hb.wr.cell ha hc
   exact (ih u v hv2 wl w hb x wl' hr).step fun τ=>by
    have:(wl.tp τ).cell? al=some u:=hc
    simp only[Sem.run,this]
 | @store E al a u v kl k ha hv hk ih =>
  intro wl w hb x wl' hr
  by_cases hag:∃c,u=.agg c
  ·obtain ⟨c,rfl⟩:=hag
   simp only[Sem.run] at hr
   cases hr
  by_cases htu:∃c,u=.tuple c
  ·obtain ⟨c,rfl⟩:=htu
   simp only[Sem.run] at hr
   cases hr
  have n1:∀c,u≠.agg c:=fun c e=>hag ⟨c,e⟩
  have n2:∀c,u≠.tuple c:=fun c e=>htu ⟨c,e⟩
  obtain ⟨n3,n4⟩:=hv.one n1 n2
  rw[run_store P al u kl wl n1 n2] at hr
  cases hc:wl.cell? al with
  | none =>
   obtain ⟨s,hs⟩:=iX hb.wr ha u false
   simp only[hc,hs] at hr
   cases hr
  | some u0 =>
   cases hfz:wl.frozen? al
   case true =>
    simp only[hc,hfz,if_true] at hr
    cases hr
   simp only[hc,hfz,Bool.false_eq_true,if_false] at hr
   obtain ⟨v0,hv1,hv2⟩:=hb.wr.cell ha hc
   obtain ⟨s,o,e1,e2,e3,_⟩:=ha
   obtain ⟨c,T,fr,g1,g2,g3⟩:=jY hc
   cases o
   ·obtain ⟨xs,T1,y,T2,fr2,k1,_,k2,k3⟩:=hb.wr.shared _ _ _ e1
    rw[g1] at k1
    cases k1
    rw[eE g1] at hfz
    have:=(Array.getElem?_eq_some_iff.1 g3).1
    simp at hfz
    omega
   ·obtain ⟨rfl,ol,oo,k1,k2,k3⟩:=hb.wr.own _ _ _ e1
    rw[g1] at k1
    cases k1
    cases k3 with
    | @cells _ y _ _ hl =>
     have hoff:a.off=al.off:=by rw[e2];rfl
     have hsp:a.spot=none:=by rw[e3,g2]
     have hfz2:w.frozen? a=false:=by rw[eE k2,hoff,←eE g1];exact hfz
     have hW:WR P E (wl.setCell al u) (w.setCell a v):=hb.wr.kq e1 (.cells T fr (hl.set al.off hv)) (eZ wl al u g1 g2) (fun i=>by rw[eZ w a v k2 hsp,hoff])
     have hB:cT P E (wl.setCell al u) (w.setCell a v):=⟨hW,hb.ta,by unfold World.setCell;simpa using hb.big⟩
     exact (ih _ _ hB x wl' hr).step fun τ=>by
      have h1:(wl.tp τ).cell? al=some u0:=hc
      have h2:(wl.tp τ).frozen? al=false:=hfz
      rw[run_store P al u kl (wl.tp τ) n1 n2]
      simp only[h1,h2,Bool.false_eq_true,if_false]
      rfl
 | @new E ol o kl k ho hk ih =>
  intro wl w hb x wl' hr
  obtain ⟨hle,hW⟩:=hb.wr.new hb.big ho
  have hB:cT P (E.put wl.heap.size w.heap.size) { wl with heap:=wl.heap.push ol } { w with heap:=w.heap.push o }:=⟨hW,hb.ta,by have:=hb.big;simp;omega⟩
  exact (ih _ _ _ hle (by unfold Env.put;rw[if_pos rfl]) hb.big _ _ hB x wl' hr).step fun τ=>rfl
 | @shape E bl b s o kl k h hk ih =>
  intro wl w hb x wl' hr
  refine (ih _ (w.shape? b) ?_ wl w hb x wl' hr).step fun τ=>rfl
  cases o
  ·obtain ⟨xs,T1,y,T2,fr2,k1,k0,k2,k3⟩:=hb.wr.shared _ _ _ h
   exact .inr ⟨rfl,T1,xs.size,T2,y.size,by unfold World.shape?;rw[k1],by unfold World.shape?;rw[k2],k0⟩
  ·obtain ⟨rfl,ol,oo,k1,k2,k3⟩:=hb.wr.own _ _ _ h
   refine .inl ⟨rfl,?_⟩
   unfold World.shape?
   rw[k1,k2]
   cases k3 with
   | cells T fr hl=>simp only[hl.size]
   | _=>rfl
 | @freeze E al a n kl k h ho hk ih =>
  intro wl w hb x wl' hr
  obtain ⟨_,ol,oo,k1,k2,k3⟩:=hb.wr.own _ _ _ h
  have r1:=fy wl al n
  have r2:=fy w a n
  have hB:cT P E (wl.freeze al n) (w.freeze a n):=by
   refine ⟨?_,fun i q=>by rw[r1.2.1,r1.2.2.2.2,r2.2.1,r2.2.2.2.2];exact hb.ta i q,by rw[r1.2.2.2.1];exact hb.big⟩
   cases k3 with
   | @cells xs ys T fr hl =>
    refine hb.wr.kq h (.cells T (if n=0 then fr else (if fr.1==fr.2 then (al.off,al.off+n) else (min fr.1 al.off,max fr.2 (al.off+n)))) hl) (fT wl al n k1) (fun i=>?_)
    rw[fT w a n k2,ho]
   | iter s p =>
    refine hb.wr.kq h (.iter s p) (fun i=>?_) (fun i=>?_)
    ·rw[bN wl al n (fun c T fr e=>by rw[k1] at e;cases e)]
     by_cases e:al.block=i
     ·rw[if_pos e,←e,k1]
     ·rw[if_neg e]
    ·rw[bN w a n (fun c T fr e=>by rw[k2] at e;cases e)]
     by_cases e:a.block=i
     ·rw[if_pos e,←e,k2]
     ·rw[if_neg e]
   | number l hn =>
    refine hb.wr.kq h (.number l hn) (fun i=>?_) (fun i=>?_)
    ·rw[bN wl al n (fun c T fr e=>by rw[k1] at e;cases e)]
     by_cases e:al.block=i
     ·rw[if_pos e,←e,k1]
     ·rw[if_neg e]
    ·rw[bN w a n (fun c T fr e=>by rw[k2] at e;cases e)]
     by_cases e:a.block=i
     ·rw[if_pos e,←e,k2]
     ·rw[if_neg e]
  refine (ih _ _ hB x wl' hr).step' r1.2.1.symm r1.2.2.2.2.symm fun τ=>?_
  have:(wl.tp τ).freeze al n=(wl.freeze al n).tp τ:=by
   unfold World.freeze
   by_cases hn:n=0
   ·rw[if_pos hn,if_pos hn]
   ·rw[if_neg hn,if_neg hn];rfl
  show kl.run P ((wl.tp τ).freeze al n)=_
  rw[this]
 | @getObj E bl b s o kl k h hk ih =>
  intro wl w hb x wl' hr
  cases o
  ·obtain ⟨xs,T1,y,T2,fr2,k1,k0,k2,k3⟩:=hb.wr.shared _ _ _ h
   simp only[Sem.run,k1] at hr;cases hr
  ·obtain ⟨rfl,ol,oo,k1,k2,k3⟩:=hb.wr.own _ _ _ h
   have k3':=k3
   cases k3 with
   | cells T fr hl=>simp only[Sem.run,k1] at hr;cases hr
   | iter p q =>
    simp only[Sem.run,k1] at hr
    exact (ih _ _ k3' wl w hb x wl' hr).step fun τ=>by
     have:(wl.tp τ).heap[bl]? = _:=k1
     simp only[Sem.run,this]
   | number l hn =>
    simp only[Sem.run,k1] at hr
    exact (ih _ _ k3' wl w hb x wl' hr).step fun τ=>by
     have:(wl.tp τ).heap[bl]? = _:=k1
     simp only[Sem.run,this]
 | @dR E bl b s kl m h =>
  intro wl w hb x wl' hr
  obtain ⟨xs,T1,y,T2,fr2,k1,k0,k2,k3⟩:=hb.wr.shared _ _ _ h
  simp only[Sem.run,k1] at hr;cases hr
 | @setObj E bl b s o xo yo kl k h ho hk ih =>
  intro wl w hb x wl' hr
  cases o
  ·obtain ⟨xs,T1,y,T2,fr2,k1,k0,k2,k3⟩:=hb.wr.shared _ _ _ h
   simp only[Sem.run,k1] at hr;cases hr
  ·obtain ⟨rfl,ol,oo,k1,k2,k3⟩:=hb.wr.own _ _ _ h
   have l1:=(Array.getElem?_eq_some_iff.1 k1).1
   have l2:=(Array.getElem?_eq_some_iff.1 k2).1
   have hB:cT P E { wl with heap:=wl.heap.setIfInBounds bl xo } { w with heap:=w.heap.setIfInBounds b yo }:=by
    refine ⟨hb.wr.kq h ho (fun i=>?_) (fun i=>?_),hb.ta,by simpa using hb.big⟩
    ·show (wl.heap.setIfInBounds bl xo)[i]? = _
     rw[Array.getElem?_setIfInBounds]
     by_cases e:bl=i
     ·rw[if_pos e,if_pos e,if_pos l1]
     ·rw[if_neg e,if_neg e]
    ·show (w.heap.setIfInBounds b yo)[i]? = _
     rw[Array.getElem?_setIfInBounds]
     by_cases e:b=i
     ·rw[if_pos e,if_pos e,if_pos l2]
     ·rw[if_neg e,if_neg e]
   cases k3 with
   | cells T fr hl=>simp only[Sem.run,k1] at hr;cases hr
   | iter p q =>
    simp only[Sem.run,k1] at hr
    exact (ih _ _ hB x wl' hr).step fun τ=>by
     have:(wl.tp τ).heap[bl]? = _:=k1
     simp only[Sem.run,this]
     rfl
   | number l hn =>
    simp only[Sem.run,k1] at hr
    exact (ih _ _ hB x wl' hr).step fun τ=>by
     have:(wl.tp τ).heap[bl]? = _:=k1
     simp only[Sem.run,this]
     rfl
 | @choose E q kl k hk ih =>
  intro wl w hb x wl' hr
  by_cases hq:q.forced=true
  ·simp only[Sem.run,hq,if_true] at hr
   exact (ih 0 wl w hb x wl' hr).step fun τ=>by simp only[Sem.run,hq,if_true]
  ·simp only[Sem.run,hq] at hr
   have hB:cT P E { wl with drawn:=wl.drawn+1 } { w with drawn:=w.drawn+1 }:=⟨⟨hb.wr.own,hb.wr.shared,hb.wr.inj,hb.wr.low⟩,fun i q'=>by
    have:=hb.ta (1+i) q'
    show wl.tape (wl.drawn+1+i) q'=w.tape (w.drawn+1+i) q'
    rw[Nat.add_assoc,Nat.add_assoc]
    exact this,hb.big⟩
   obtain ⟨h1,h2,h3⟩:=ih _ _ _ hB x wl' hr
   have h1':wl.drawn+1≤wl'.drawn:=h1
   refine ⟨by omega,h2,fun τ hτ=>?_⟩
   have h0:τ wl.drawn q=wl.tape wl.drawn q:=hτ _ _ (Nat.le_refl _) (by omega)
   have:=h3 τ (fun i q' hi hi'=>hτ i q' (by have:wl.drawn+1≤i:=hi;omega) hi')
   rw[←this]
   show (if q.forced=true then _ else _)=_
   rw[if_neg hq,←h0]
   rfl
 | program hk ih =>
  intro wl w hb x wl' hr
  exact (ih wl w hb x wl' hr).step fun τ=>rfl
 | noRoom hk ih =>
  intro wl w hb x wl' hr
  exact (ih wl w hb x wl' hr).step fun τ=>rfl
end
end Cs
end Go.Proofs.Ytpdemelchhkfaaa
