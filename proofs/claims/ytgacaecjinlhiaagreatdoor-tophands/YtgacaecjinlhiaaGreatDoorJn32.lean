import Derived.RangeFuncNested
import Derived.RangeFuncBound
import Derived.Shelf.RegionOpen
import Derived.OwnWalkIn
import Derived.LoopNIn
import Derived.LoopIn
import Derived.Test.YtgacaecjinlhiaaGreatDoorJn26
namespace Go.Proofs.YtgacaecjinlhiaaGreatDoor
section
open Go.RowKit
variable {F:Fence} {n:Nat} {P:Program}
def ya (P:Program) (l:Nat) (R:Ending→World→Prop):Exit→Act→World→Prop
 | .normal,_,w=>∃v w',(Instr.endRound l none).run P w=.ok v w'∧R (.returned v) w'
 | .panic ch,a,w=>a.defers=[]∧R (.panicked ch) w
 | _,_,_=>False
theorem mR {l:Nat} {f:FuncId} {tmps:Array Value} {assign body:Code} {w:World} {R:Ending→World→Prop} (hF:F.fn f) (hfn:∃fn,P.funcs[f]? = some fn)
  (h:assign.wpIn (F.inRound l) n P (Exit.then (fun a₁ w₁=>∃w₂,(Instr.beginRound l).run P w₁=.ok () w₂∧body.wpIn (F.inRound l) n P (ya P l R) a₁ w₂) (fun _ _ _=>False))
   { tmps:=tmps,defers:=[] } w) :
  RoundIn F n P l f tmps assign body w R:=by
 refine ⟨hF,fun c cs hr=>?_⟩
 let b:Frame:={ (default:Frame) with fn:=f,kind:=.normal,roundOf:=some l }
 have hb0:Frame.round l f tmps assign body .normal=b.atR { tmps:=tmps,defers:=[] } [.code assign,.beginRound,.code body]:=by
  simp[Frame.round,Frame.atR,b]
 have hr':(F.inRound l).room ((c :: cs).length+1+n):=hr
 have hF':(F.inRound l).fn b.fn:=hF
 obtain ⟨e,a₁,w₁,hq,harr⟩:=h b [.beginRound,.code body] (c :: cs) rfl hF' hr'
 rw[←hb0] at harr
 cases e with
 | normal =>
  obtain ⟨w₂,hbr,hbody⟩:=hq
  have s1:StepsIn (Machine.fenced P (F.inRound l)) P (lone (b.atR a₁ [.beginRound,.code body]) (c :: cs) w₁) (lone (b.atR a₁ [.code body]) (c :: cs) w₂) :=
   .one (fenced_calm (fr:=b.atR a₁ [.beginRound,.code body]) hF' hr' rfl) (stepR_beginRound rfl hbr)
  obtain ⟨e₂,a₂,w₃,hq₂,harr₂⟩:=hbody b [] (c :: cs) rfl hF' hr'
  cases e₂ with
  | normal =>
   obtain ⟨v,w₄,hend,hR⟩:=hq₂
   exact ⟨.returned v,w₄,hR,(StepsIn.trans harr s1).trans (StepsIn.trans harr₂ (.one (fenced_calm (fr:=b.atR a₂ []) hF' hr' rfl) (stepR_round_end rfl rfl hend)))⟩
  | panic chain =>
   obtain ⟨hd,hR⟩:=hq₂
   obtain ⟨todo,hs⟩:=harr₂
   have hl:({ b.atR a₂ todo with mode:=.panicking chain }:Frame).leaving P w₃ (.panicked chain):=⟨rfl,hd,hfn⟩
   have hi:(lone { b.atR a₂ todo with mode:=.panicking chain } (c :: cs) w₃).fenced P (F.inRound l):=fenced_leaving hF' hr' hl
   exact ⟨.panicked chain,w₃,hR,(StepsIn.trans harr s1).trans (StepsIn.trans hs (.one hi (step_leave_panicked hl)))⟩
  | ret=>exact hq₂.elim
  | exit id=>exact hq₂.elim
  | goto t=>exact hq₂.elim
  | outgrown=>exact hq₂.elim
 | exit id=>exact hq.elim
 | goto t=>exact hq.elim
 | ret=>exact hq.elim
 | panic chain=>exact hq.elim
 | outgrown=>exact hq.elim
def vL (B:Nat) (Ob:Nat→Prop) (J:Nat→World→Prop):Prop :=
 ∀s W W' row,B≤W.heap.size→J s W→W.grownBy W' row→(∀r,row=some r→Ob r)→J s W'
def Eg (F:Fence) (n:Nat) (P:Program) (g:Nat) (lb:Array Value) (N:Nat) (xs:Nat→Array Value) (Ob:Nat→Prop) (Kp:World→World→Prop) (w:World):Prop :=
 ∀(l:Nat) (J:Nat→World→Prop) (Jp:List PanicEntry→World→Prop) (W:World),Below w.heap.size w W→vL W.heap.size Ob J →
  (∀k W1,J k W1→k<N→YieldAt F (n-1) P l (xs k) W1 fun e W' =>
   (e=.returned (.bool true)∧J (k+1) W'∧Kp W1 W')∨(∃ch,e=.panicked ch∧Jp ch W')) →
  J 0 W →
  CallsIn F n P g (#[.func (.yield l) #[] #[]]++lb) W fun e W'=>((∃v,e=.returned v)∧J N W')∨(∃ch,e=.panicked ch∧Jp ch W')
def EV (Kp:World→World→Prop) (I:Nat→World→Prop) (Ip:List PanicEntry→World→Prop) (k:Nat) (W:World):Exit→Act→World→Prop
 | .normal,_,W'=>KeepsOthers W W'∧Kp W W'∧I k W'
 | .panic ch,a,W'=>a.defers=[]∧KeepsOthers W W'∧Ip ch W'
 | _,_,_=>False
def rK (B:Nat) (Ob:Nat→Prop) (I:Nat→World→Prop):Prop :=
 ∀s W W' row,I s W→W.grownBy W' row→(∀r,row=some r→(B≤r∧∃o:Obj,W.heap[r]? = some o∧o.isCells=false)∨Ob r)→I s W'
theorem rK.putObj {B:Nat} {Ob:Nat→Prop} {I:Nat→World→Prop} (h:rK B Ob I) {s:Nat} {W:World} {l:Nat} {o:Obj} (o':Obj) (hs:I s W) (hB:B≤l) (hl:W.heap[l]? = some o) (ho:o.isCells=false):I s (W.putObj l o') :=
 h s W _ (some l) hs (grownBy_putObj' W l o') (fun r e=>by cases e;exact .inl ⟨hB,o,hl,ho⟩)
theorem rK.alloc {B:Nat} {Ob:Nat→Prop} {I:Nat→World→Prop} (h:rK B Ob I) {s:Nat} {W:World} (o:Obj) (hs:I s W):I s (W.alloc o) :=
 h s W _ none hs (World.grownBy_alloc W o none) (fun r e=>by cases e)
theorem rz {g:Operand} {ps:Array Tmp} {assign body:Code} {Q:Exit→Act→World→Prop} {a:Act} {w:World} (fn:FuncId) (hfn:F.fn fn) (hfns:∃f,P.funcs[fn]? = some f)
  (h1:1≤n) {gf:Nat} {lb:Array Value} (hg:a.eval g=.func (.func gf) #[] lb) (hFg:F.fn gf) (eg:∀args w,(callFunc gf args).run P w=.ok (.enter gf args) w)
  {N:Nat} {xs:Nat→Array Value} {Ob:Nat→Prop} {Kp:World→World→Prop} {w0:World} (hseq:Eg F (n-1) P gf lb N xs Ob Kp w0) (hOb:∀r,Ob r→r<w.heap.size)
  (hKt:∀{A B C:World},Kp A B→Kp B C→Kp A C) (hKb:∀(W:World) (l:Nat) (o o':Obj),w.heap.size≤l→W.heap[l]? = some o→o.isCells=false→o.isWalk=false→Kp W (W.putObj l o')) (hb0:Below w0.heap.size w0 w) (hps:∀k,(xs k).size=ps.size)
  (I:Nat→World→Prop) (Ip:List PanicEntry→World→Prop) (hI:rK w.heap.size Ob I) (h0:I 0 w) (Ax:Nat→Act→World→Prop) (hAx:∀k a,rK w.heap.size Ob (fun _ W=>Ax k a W))
  (hassign:∀(l:Nat) (k:Nat) (W:World) (K:Act→World→Prop),I k W→k<N→(∀a' W',KeepsOthers W W'→Kp W W'→I k W'→Ax k a' W'→K a' W') →
   assign.wpIn (F.inRound l) (n-1-1) P (Exit.then K (fun _ _ _=>False)) { tmps:=(ps.zip (xs k)).foldl (fun t (p,v)=>t.setIfInBounds p v) a.tmps,defers:=[] } W)
  (hbody:∀(l:Nat) (k:Nat) (a':Act) (W:World),I k W→Ax k a' W→k<N→body.wpIn (F.inRound l) (n-1-1) P (EV Kp I Ip (k+1) W) a' W)
  (hdone:∀(D:Nat) (W:World),w.heap.size≤D→I N W→W.heap[D]? = some (.deferred (some []))→Q .normal { a with defers:={ target:=.collected D,args:=#[] } :: a.defers } W)
  (hpan:∀(D:Nat) (ch:List PanicEntry) (W:World),w.heap.size≤D→Ip ch W→W.heap[D]? = some (.deferred (some []))→Q (.panic ch) { a with defers:={ target:=.collected D,args:=#[] } :: a.defers } W) :
  ∃(l:Nat) (mark:List Deferred) (w₁:World) (d:Deferred) (w₁':World) (f:FuncId) (args:Array Value) (w₂:World),
   (Instr.enterLoop fn a.tmps ps assign body none).run P w=.ok (l,mark) w₁ ∧
   (resolve a.eval (rangeCall g l) 0).run P w₁=.ok d w₁' ∧
   (∀f',Target.leads P w₁' d.target d.args=some f'→F.fn f') ∧
   (invoke d.target d.args).run P w₁'=.ok (.enter f args) w₂ ∧
   (F.depth.isSome=true→1≤n) ∧
   CallsIn F (n-1) P f args w₂ (rangePost F n P l Q { a with defers:=mark++a.defers }):=by
 obtain ⟨rec,hrec⟩:∃rec:LoopState→Option Code→Loop,rec=fun st pe=>{ state:=st,pending:=pe,fn,tmps:=a.tmps,params:=ps,assign,body,defers:=w.heap.size }:=⟨_,rfl⟩
 obtain ⟨W1,hW1⟩:∃W1,(w.alloc (.deferred (some []))).alloc (.loop (rec .ready none))=W1:=⟨_,rfl⟩
 have hL1:W1.heap[w.heap.size+1]? = some (.loop (rec .ready none)):=by
  rw[←hW1];have:=World.alloc_heap_new (w.alloc (.deferred (some []))) (.loop (rec .ready none));rwa [World.size_alloc] at this
 have hK1:W1.heap[w.heap.size]? = some (.deferred (some [])):=by
  rw[←hW1];exact (Below.heap_alloc _ _ _ (by simp)).trans (World.alloc_heap_new w _)
 have hI1:I 0 W1:=by rw[←hW1];exact hI.alloc _ (hI.alloc _ h0)
 have hb1:Below w0.heap.size w0 W1:=by
  rw[←hW1];exact hb0.trans ((((Below.refl _ w).alloc (Nat.le_refl _) _).alloc (by simp) _).mono hb0.size)
 have hobs:∀{W W':World} {row:Option Nat} {r:Nat} {o:Obj},W.grownBy W' row→(∀r,row=some r→Ob r)→w.heap.size≤r→W.heap[r]? = some o→W'.heap[r]? = some o:=fun {W W' row r o} hg hr hle ho=>by
  refine (hg.block r (Array.getElem?_eq_some_iff.1 ho).1 (fun e=>?_)).trans ho
  have:=hOb r (hr r e.symm)
  omega
 refine ⟨w.heap.size+1,[{ target:=.collected w.heap.size,args:=#[] }],W1,{ target:=.fn (.func gf) lb,args:=#[.func (.yield (w.heap.size+1)) #[] #[]] },W1,gf,
  #[.func (.yield (w.heap.size+1)) #[] #[]]++lb,W1,?_,?_,?_,?_,fun _=>h1,?_⟩
 ·rw[←hW1,hrec];exact run_enterLoop_outer _ _ _ _ _
 ·simp only[resolve,hg]
  simp[go_sem]
 ·intro f' hf';simp[Target.leads] at hf';subst hf';exact hFg
 ·simp[invoke,go_sem,eg]
 ·refine (hseq (w.heap.size+1)
   (fun k W=>I k W∧W.heap[w.heap.size+1]? = some (.loop (rec .ready none))∧W.heap[w.heap.size]? = some (.deferred (some [])))
   (fun ch W=>Ip ch W∧W.heap[w.heap.size]? = some (.deferred (some [])))
   W1 hb1
   (fun s A B row hsz hs hg' hr=>⟨hI s A B row hs.1 hg' (fun r e=>.inr (hr r e)),hobs hg' hr (by omega) hs.2.1,hobs hg' hr (by omega) hs.2.2⟩)
   ?_ ⟨hI1,hL1,hK1⟩).mono ?_
  ·rintro k W ⟨hi,hl,hk⟩ hlen
   have hlt:w.heap.size+1<W.heap.size:=(Array.getElem?_eq_some_iff.1 hl).1
   have hy:=run_yield (P:=P) (args:=xs k) hl (by rw[hrec];exact hps k)
   rw[hrec] at hy
   refine ⟨fn,_,assign,body,hy,mR hfn hfns (hassign _ k W _ hi hlen (fun a' Wa hko hkp hia hax=>?_))⟩
   have hla:Wa.heap[w.heap.size+1]? = some (.loop (rec .ready none)):=hko.same _ _ hl rfl
   have hka:Wa.heap[w.heap.size]? = some (.deferred (some [])):=hko.same _ _ hk rfl
   have hlta:w.heap.size+1<Wa.heap.size:=(Array.getElem?_eq_some_iff.1 hla).1
   refine ⟨_,run_beginRound hla (by rw[hrec]),?_⟩
   have hl2:(Wa.putObj (w.heap.size+1) (.loop { rec .ready none with state:=.busy })).heap[w.heap.size+1]? = some (.loop { rec .ready none with state:=.busy }):=World.putObj_heap_same hlta
   have hk2:(Wa.putObj (w.heap.size+1) (.loop { rec .ready none with state:=.busy })).heap[w.heap.size]? = some (.deferred (some [])):=(World.putObj_heap_other (by omega)).trans hka
   have hw2:Kp Wa (Wa.putObj (w.heap.size+1) (.loop { rec .ready none with state:=.busy })):=hKb _ _ _ _ (by omega) hla rfl rfl
   refine wpIn_mono (hbody _ k a' _ (hI.putObj _ hia (by omega) hla rfl) ((hAx k a').putObj (s:=0) _ hax (by omega) hla rfl) hlen) ?_
   rintro e a3 W3 hp
   cases e with
   | normal =>
    obtain ⟨hk3,hkp3,hi3⟩:=hp
    have hl3:=hk3.same _ _ hl2 rfl
    have hr:=run_endRound (P:=P) none hl3
    rw[hrec] at hr hl3 ⊢
    exact ⟨_,_,hr,.inl ⟨rfl,⟨hI.putObj _ hi3 (by omega) hl3 rfl,World.putObj_heap_same (Array.getElem?_eq_some_iff.1 hl3).1,(World.putObj_heap_other (by omega)).trans (hk3.same _ _ hk2 rfl)⟩,hKt (hKt hkp (hKt hw2 hkp3)) (hKb _ _ _ _ (by omega) hl3 rfl rfl)⟩⟩
   | panic ch =>
    obtain ⟨hd,hk3,hp3⟩:=hp
    exact ⟨hd,.inr ⟨ch,rfl,hp3,hk3.same _ _ hk2 rfl⟩⟩
   | ret=>exact hp.elim
   | exit id=>exact hp.elim
   | goto t=>exact hp.elim
   | outgrown=>exact hp.elim
  ·rintro e W2 (⟨⟨v,rfl⟩,hi,hl,hk⟩ | ⟨ch,rfl,hi,hk⟩)
   ·exact ⟨none,_,by have:=run_endLoop (P:=P) hl (by rw[hrec];simp);rw[hrec] at this;exact this,hdone _ _ (Nat.le_refl _) (hI.putObj _ hi (by omega) hl rfl) ((World.putObj_heap_other (by omega)).trans hk)⟩
   ·exact hpan _ ch _ (Nat.le_refl _) hi hk
def wpF (f:FuncId) (P:Program) (c:Code) (Q:Exit→Act→World→Prop) (a:Act) (w:World):Prop :=
 ∀(b:Frame) (k:List Item) (cs:List Frame),b.roundOf=none→b.fn=f →
  ∃e a' w',Q e a' w'∧ArrivesIn (Machine.fenced P Fence.wide) P (lone (b.atR a (.code c :: k)) cs w) b k cs e a' w'
section
variable {f:FuncId} {Q:Exit→Act→World→Prop} {a:Act} {w:World}
theorem gP {c:Code} (h:c.wp P Q a w):wpF f P c Q a w:=fun b k cs hro _=>(wpIn_wide (n:=0)).2 h b k cs hro trivial (room_wide _)
theorem lz {x y:Code} (h:wpF f P x (Exit.then (wpF f P y Q) Q) a w):wpF f P (Code.seq x y) Q a w:=by
 intro b k cs hro hb
 have h0:(lone (b.atR a (.code (.seq x y) :: k)) cs w).fenced P Fence.wide:=fenced_wide _ _
 obtain ⟨e,a₁,w₁,hq,harr⟩:=h b (.code y :: k) cs hro hb
 cases e with
 | normal =>
  obtain ⟨e₂,a₂,w₂,hq₂,harr₂⟩:=hq b k cs hro hb
  exact ⟨e₂,a₂,w₂,hq₂,.of_steps (.head h0 stepR_seq harr) harr₂⟩
 | exit id=>exact ⟨_,a₁,w₁,hq,.of_steps (.one h0 stepR_seq) (.pass (x:=.code y) rfl (fun _ _=>.inl (by simp)) harr)⟩
 | goto l=>exact ⟨_,a₁,w₁,hq,.of_steps (.one h0 stepR_seq) (.pass (x:=.code y) rfl (fun _ _=>.inl (by simp)) harr)⟩
 | ret=>exact ⟨_,a₁,w₁,hq,.of_steps (.one h0 stepR_seq) (.pass (x:=.code y) rfl (fun _ _=>.inl (by simp)) harr)⟩
 | panic ch=>exact ⟨_,a₁,w₁,hq,.of_steps (.one h0 stepR_seq) (.pass (x:=.code y) rfl (fun _ _=>.inl (by simp)) harr)⟩
 | outgrown=>exact ⟨_,a₁,w₁,hq,.of_steps (.one h0 stepR_seq) (.pass (x:=.code y) rfl (fun _ _=>.inl (by simp)) harr)⟩
theorem By {id:Nat} {c:Code} (h:wpF f P c (Exit.inBlock id Q) a w):wpF f P (Code.block id c) Q a w:=by
 intro b k cs hro hb
 have h0:(lone (b.atR a (.code (.block id c) :: k)) cs w).fenced P Fence.wide:=fenced_wide _ _
 obtain ⟨e,a₁,w₁,hq,harr⟩:=h b (.inBlock id :: k) cs hro hb
 cases e with
 | normal=>exact ⟨.normal,a₁,w₁,hq,.head h0 stepR_block (StepsIn.trans harr (.one (fenced_wide _ _) stepR_inBlock))⟩
 | exit id' =>
  by_cases hid:id'=id
  ·simp only[Exit.inBlock,hid,if_true] at hq
   exact ⟨.normal,a₁,w₁,hq,.head h0 stepR_block (harr.1 k (by simp[exitTo,hid]))⟩
  ·simp only[Exit.inBlock,hid,if_false] at hq
   have this:(id==id')=false:=by simp;exact fun h=>hid h.symm
   have hx:exitTo id' (.inBlock id :: k)=exitTo id' k:=by simp[exitTo,this]
   exact ⟨.exit id',a₁,w₁,hq,fun k' hk=>.head h0 stepR_block (harr.1 k' (by rw[hx];exact hk)),
    fun hr' hk=>let ⟨k₁,h1,h2⟩:=harr.2 hr' (by rw[hx];exact hk);⟨k₁,h1,.head h0 stepR_block h2⟩⟩
 | goto l =>
  have hx:gotoIn l (.inBlock id :: k)=gotoIn l k:=by simp[gotoIn]
  exact ⟨_,a₁,w₁,hq,fun k' hk=>.head h0 stepR_block (harr.1 k' (by rw[hx];exact hk)),
   fun hr' hk=>let ⟨k₁,h1,h2⟩:=harr.2 hr' (by rw[hx];exact hk);⟨k₁,h1,.head h0 stepR_block h2⟩⟩
 | ret=>exact ⟨_,a₁,w₁,hq,.of_steps (.one h0 stepR_block) harr⟩
 | panic ch=>exact ⟨_,a₁,w₁,hq,.of_steps (.one h0 stepR_block) harr⟩
 | outgrown=>exact ⟨_,a₁,w₁,hq,.of_steps (.one h0 stepR_block) harr⟩
theorem qS {g:Operand} {ps:Array Tmp} {assign body:Code} {n:Nat}
  (h:∃(l:Nat) (mark:List Deferred) (w₁:World) (d:Deferred) (w₁':World) (f1:FuncId) (args:Array Value) (w₂:World),
   (Instr.enterLoop f a.tmps ps assign body none).run P w=.ok (l,mark) w₁ ∧
   (resolve a.eval (rangeCall g l) 0).run P w₁=.ok d w₁' ∧
   (∀f',Target.leads P w₁' d.target d.args=some f'→Fence.wide.fn f') ∧
   (invoke d.target d.args).run P w₁'=.ok (.enter f1 args) w₂ ∧
   (Fence.wide.depth.isSome=true→1≤n) ∧
   CallsIn Fence.wide (n-1) P f1 args w₂ (rangePost Fence.wide n P l Q { a with defers:=mark++a.defers })) :
  wpF f P (Code.rangeFunc g ps assign body) Q a w:=by
 intro b k cs hro hb
 obtain ⟨l,mark,w₁,d,w₁',f1,args,w₂,he,hres,hlead,hinv,hn,hF,hcall⟩:=h
 rw[←hro,←hb] at he
 have h0:(lone (b.atR a (.code (.rangeFunc g ps assign body) :: k)) cs w).fenced P Fence.wide:=fenced_wide _ _
 have henter:=stepR_rangeFunc (P:=P) (b:=b) (a:=a) (k:=k) (cs:=cs) (w:=w) he hres hinv
 obtain ⟨e,w₃,fr,hR,hsteps,hfn,hleave⟩:=hcall (b.atR { a with defers:=mark++a.defers } (.inRangeFunc l :: k) :: cs) (room_wide _)
 cases e with
 | outgrown =>
  obtain ⟨a₀,w₀,hq⟩:=hR
  exact ⟨.outgrown,a₀,w₀,hq,.inr (Outgrown.of_steps (.one henter) hsteps)⟩
 | returned v =>
  have hl:(lone fr (b.atR { a with defers:=mark++a.defers } (.inRangeFunc l :: k) :: cs) w₃).fenced P Fence.wide:=fenced_wide _ _
  obtain ⟨jump,w₄,hend,hj⟩:=hR
  have sback:StepsIn (Machine.fenced P Fence.wide) P (lone (b.atR a (.code (.rangeFunc g ps assign body) :: k)) cs w) (lone (b.atR { a with defers:=mark++a.defers } ((jump.map Item.code).toList++k)) cs w₄):=by
   refine .head h0 henter (StepsIn.trans hsteps (.head hl ?_ (.one (fenced_wide _ _) (stepR_endRangeFunc hend))))
   rw[←finish_atR_inRangeFunc l v];exact step_leave_returned hleave
  cases jump with
  | none=>exact ⟨.normal,_,w₄,hj,sback⟩
  | some c =>
   obtain ⟨e',a'',w₅,hq,harr⟩:=hj b k cs hro trivial (room_wide _)
   exact ⟨e',a'',w₅,hq,.of_steps sback harr⟩
 | panicked chain =>
  have hl:(lone fr (b.atR { a with defers:=mark++a.defers } (.inRangeFunc l :: k) :: cs) w₃).fenced P Fence.wide:=fenced_wide _ _
  refine ⟨.panic chain,_,w₃,hR,.inRangeFunc l :: k,.head h0 henter (StepsIn.trans hsteps (.one hl ?_))⟩
  rw[←Frame.raise_atR];exact step_leave_panicked hleave
end
theorem tP {f:FuncId} {fn:Func} {c:Code} {args:Array Value} {w:World} {R:Ending→World→Prop}
  (hf:P.funcs[f]? = some fn) (hb:fn.body=some c)
  (h:wpF f P c (bodyPostM Fence.wide 9 P fn R) { tmps:=args++Array.replicate (fn.ntmps-args.size) undef,defers:=[] } w):Calls P f args w R:=by
 refine (callsIn_wide (n:=9)).1 ⟨trivial,fun cs hr=>?_⟩
 let b:Frame:={ (default:Frame) with fn:=f,kind:=.normal,roundOf:=none }
 have henter:Frame.enter P f args .normal =
   b.atR { tmps:=args++Array.replicate (fn.ntmps-args.size) undef,defers:=[] } [.code c]:=by
  simp[Frame.enter,Frame.atR,hf,hb,b]
 obtain ⟨e,a',w',hq,harr⟩:=h b [] cs rfl rfl
 rw[←henter] at harr
 cases e with
 | normal =>
  obtain ⟨e',w'',fr',hR,hs,hfn,hl⟩:=leaves_stepsInM a'.defers .returning w' { b.atR a' [] with mode:=.returning } cs rfl rfl rfl hf rfl trivial hr hq
  exact ⟨e',w'',fr',hR,ComesIn.of_steps (StepsIn.trans harr (.one (fenced_wide _ _) (stepR_end rfl))) hs,hfn,hl⟩
 | ret =>
  obtain ⟨todo,hs₀⟩:=harr.1 rfl
  obtain ⟨e',w'',fr',hR,hs,hfn,hl⟩:=leaves_stepsInM a'.defers .returning w' { b.atR a' todo with mode:=.returning } cs rfl rfl rfl hf rfl trivial hr hq
  exact ⟨e',w'',fr',hR,ComesIn.of_steps hs₀ hs,hfn,hl⟩
 | panic chain =>
  obtain ⟨todo,hs₀⟩:=harr
  obtain ⟨e',w'',fr',hR,hs,hfn,hl⟩:=leaves_stepsInM a'.defers (.panicking chain) w' { b.atR a' todo with mode:=.panicking chain } cs rfl rfl rfl hf rfl trivial hr hq
  exact ⟨e',w'',fr',hR,ComesIn.of_steps hs₀ hs,hfn,hl⟩
 | exit id=>exact hq.elim
 | goto l=>exact hq.elim
 | outgrown=>exact ⟨.outgrown,w',b,hq,harr.resolve_left (by simp[b]),rfl,trivial⟩
end
section
open Go.RowKit PK Vg Sm
attribute [local go_sem] Oper.semAt_some
section
variable {F:Fence} {n:Nat} {P:Program}
theorem lZ {ops:Array Oper} {rest:List Oper} {op:Oper} {a:Act} {w:World} {Q:Exit→Act→World→Prop} (hgd:op.guard=none) (ty:TypeId) (x:Operand) (ho:op.op=.load ty x)
  (b o:Nat) (hx:a.eval x=.pointer (some ⟨b,o,none⟩)) (cs:Array Value) (d:TypeDesc) (hc:w.rangeAt b o cs.toList)
  (hu:P.underlying ty=some d) (hd:d.isRow=true) (hi:(P.info? ty).map (·.size)=some cs.size)
  (h:wpListIn F n P ops Q rest (a.put op.dst (.agg cs)) w):wpListIn F n P ops Q (op :: rest) a w:=by
 refine wpListIn_plain hgd fun K hK=>?_
 have hl:=run_loadVar_mid w b o ty cs.toList d hc hu hd (by rw[Array.length_toList];exact hi)
 rw[Array.toArray_toList] at hl
 unfold Oper.wpIn
 refine ⟨by simp[Oper.about,ho],?_⟩
 rw[Oper.semAt_plain F _ _ (by rw[ho];intro c hc';cases hc')]
 unfold execOp
 simp only[ho,hx,Instr.loadAt,Instr.sureAddr,Sem.run_bind,Sem.run_pure,Result.andThen_ok,hl]
 exact hK _ _ h
theorem fG {ops:Array Oper} {rest:List Oper} {o:Oper} {a:Act} {w:World} {Q:Exit→Act→World→Prop} (hgd:o.guard=none) (ty:TypeId) (x y:Operand) (ho:o.op=.store ty x y)
  (g:Nat) (cells:Array Value) (hx:a.eval x=.pointer (some ⟨g,0,none⟩)) (hy:a.eval y=.agg cells)
  (t:TypeId) (old:Array Value) (hg:w.heap[g]? = some (.cells old t (0,0))) (hi:(P.info? ty).map (·.size)=some cells.size)
  (hold:old.size=cells.size) (h1:cells.all (·.oneCell')=true)
  (h:wpListIn F n P ops Q rest (a.put o.dst undef) (w.setRow g cells)):wpListIn F n P ops Q (o :: rest) a w:=by
 refine wpListIn_plain hgd fun K hK=>?_
 unfold Oper.wpIn
 refine ⟨by simp[Oper.about,ho],?_⟩
 rw[Oper.semAt_plain F _ _ (by rw[ho];intro c hc';cases hc')]
 unfold execOp
 simp only[ho,hx,hy,Instr.storeAt,Instr.sureAddr,Sem.run_bind,Sem.run_pure,Result.andThen_ok,run_storeVar_row w g t ty old cells hg hi hold h1]
 exact hK _ _ h
end
end
section
open Go.RowKit PK Vg
attribute [local go_sem] Oper.semAt_some
def rst (l:List UInt8):Nat→List UInt8
 | 0=>l
 | k+1=>(rst l k).drop ((upto 44 (rst l k)).length+1)
def pce (l:List UInt8) (k:Nat):List UInt8:=upto 44 (rst l k)
def off (l:List UInt8):Nat→Nat
 | 0=>0
 | k+1=>off l k+(pce l k).length+1
def pcn (l:List UInt8):Nat:=l.count 44+1
theorem iC (c:UInt8):∀l:List UInt8,(l.count c=0∧upto c l=l)∨((upto c l).length<l.length∧l.count c=(l.drop ((upto c l).length+1)).count c+1)
 | []=>.inl ⟨rfl,rfl⟩
 | b :: l=>by
  by_cases hb:b=c
  ·right
   subst hb
   unfold upto
   simp
  ·have hb2:(b != c)=true:=by simp[hb]
   have hu:upto c (b :: l)=b :: upto c l:=by unfold upto;rw[List.takeWhile_cons,hb2];rfl
   rw[hu]
   have hc:(b :: l).count c=l.count c:=by rw[List.count_cons];simp[hb]
   rw[hc]
   rcases iC c l with ⟨h1,h2⟩ | ⟨h1,h2⟩
   ·exact .inl ⟨h1,by rw[h2]⟩
   ·right
    refine ⟨by simp;omega,?_⟩
    rw[h2]
    rfl
theorem mU (l:List UInt8):∀k,k<pcn l→(rst l k).count 44+k=l.count 44
 | 0,_=>rfl
 | k+1,h=>by
  have ih:=mU l k (by omega)
  unfold pcn at h
  rcases iC 44 (rst l k) with ⟨h1,_⟩ | ⟨_,h2⟩
  ·omega
  ·show ((rst l k).drop ((upto 44 (rst l k)).length+1)).count 44+(k+1)=_
   omega
theorem zL (l:List UInt8) {k:Nat} (h:k+1<pcn l):Lib.indexByte (rst l k) 44=((pce l k).length:Int)∧(pce l k).length<(rst l k).length:=by
 have hc:=mU l k (by omega)
 unfold pcn at h
 rcases iC 44 (rst l k) with ⟨h1,_⟩ | ⟨h1,h2⟩
 ·omega
 ·rcases iH 44 (rst l k) with ⟨h3,h4⟩ | h3
  ·rw[h4] at h1;omega
  ·exact h3
theorem Cf (l:List UInt8) {k:Nat} (h:k+1=pcn l):Lib.indexByte (rst l k) 44=-1∧pce l k=rst l k:=by
 have hc:=mU l k (by omega)
 unfold pcn at h
 rcases iC 44 (rst l k) with ⟨h1,h2⟩ | ⟨_,h2⟩
 ·rcases iH 44 (rst l k) with h3 | ⟨_,h4⟩
  ·exact h3
  ·rw[h2] at h4;omega
 ·omega
theorem zg (l:List UInt8):∀k,(rst l k).length≤l.length
 | 0=>Nat.le_refl _
 | k+1=>by
  show ((rst l k).drop _).length≤_
  rw[List.length_drop]
  have:=zg l k
  omega
theorem zI (l:List UInt8):∀k,k<pcn l→(rst l k).length+off l k=l.length
 | 0,_=>rfl
 | k+1,h=>by
  have ih:=zI l k (by omega)
  have hm:=(zL l h).2
  show ((rst l k).drop ((upto 44 (rst l k)).length+1)).length+(off l k+(pce l k).length+1)=_
  rw[List.length_drop]
  unfold pce at hm ⊢
  omega
structure ou (W:World) (bp bs bv:Nat) (s:ByteArray):Prop where
 sep:af W bp 9 #[.string ⟨#[44]⟩]
 txt:af W bs 9 #[.string s]
 sav:af W bv 3 #[.int .i64 0]
 ne:bp≠bs∧bv≠bs
def KsP (bp bs bv:Nat) (W W':World):Prop:=W'.heap[bp]? = W.heap[bp]?∧W'.heap[bs]? = W.heap[bs]?∧W'.heap[bv]? = W.heap[bv]?∧W.heap.size≤W'.heap.size
theorem KsP.trans {bp bs bv:Nat} {A B C:World} (h:KsP bp bs bv A B) (k:KsP bp bs bv B C):KsP bp bs bv A C:=⟨k.1.trans h.1,k.2.1.trans h.2.1,k.2.2.1.trans h.2.2.1,Nat.le_trans h.2.2.2 k.2.2.2⟩
theorem ou.keep {bp bs bv:Nat} {W W':World} {s:ByteArray} (h:ou W bp bs bv s) (k:KsP bp bs bv W W'):ou W' bp bs bv s:=⟨k.1.trans h.sep,k.2.1.trans h.txt,k.2.2.1.trans h.sav,h.ne⟩
theorem ou.set {bp bs bv:Nat} {W:World} {s:ByteArray} (h:ou W bp bs bv s) (t:ByteArray):ou (W.setCell ⟨bs,0,none⟩ (.string t)) bp bs bv t:=⟨af.setOther h.sep _ _ h.ne.1,af.set h.txt 0 _,af.setOther h.sav _ _ h.ne.2,h.ne⟩
def ssM (bs:Nat) (W:World):Nat:=match W.cell? ⟨bs,0,none⟩ with
 | some (.string t)=>t.data.toList.length
 | _=>0
theorem Et {l:List UInt8} {s:ByteArray} (h:s.data.toList=l):(⟨l.toArray⟩:ByteArray)=s:=by
 cases s
 rw[←h]
set_option maxRecDepth 100000 in
set_option maxHeartbeats 2000000 in
theorem BF (bp bs bv:Nat) (s:ByteArray) (hs:s.size≤65536) (w0:World) (m:Nat) (h0:ou w0 bp bs bv s) :
  Eg Fence.wide m Tryz.prog 164 #[.pointer (some ⟨bp,0,none⟩),.pointer (some ⟨bs,0,none⟩),.pointer (some ⟨bv,0,none⟩)] (pcn s.data.toList) (fun k=>#[.string ⟨(pce s.data.toList k).toArray⟩]) (fun b=>b=bs) (KsP bp bs bv) w0:=by
 intro l J Jp W hW hJ hY hj0
 have hS0:ou W bp bs bv s:=⟨af.below h0.sep hW (af.lt h0.sep),af.below h0.txt hW (af.lt h0.txt),af.below h0.sav hW (af.lt h0.sav),h0.ne⟩
 have HY:Hid (∀k W1,J k W1→k<pcn s.data.toList→YieldAt Fence.wide (m-1) Tryz.prog l #[.string ⟨(pce s.data.toList k).toArray⟩] W1 fun e W'=>(e=.returned (.bool true)∧J (k+1) W'∧KsP bp bs bv W1 W')∨(∃ch,e=.panicked ch∧Jp ch W')):=hY
 have HJ:Hid (vL W.heap.size (fun b=>b=bs) J):=hJ
 have HSZ:Hid (s.data.toList.length≤65536):=by rw[Hid,←Pl.aK s];exact hs
 have c1:=af.cell hS0.sep (i:=0) rfl
 generalize hls:s.data.toList=L at *
 have HS0:Hid (ou W bp bs bv ⟨(rst L 0).toArray⟩):=by
  have e:(⟨(rst L 0).toArray⟩:ByteArray)=s:=by rw[←hls];rfl
  rw[Hid,e]
  exact hS0
 clear h0 hS0 hY hJ hs hW hls
 refine callsIn_of_wp Tryz.func164 rfl trivial ?_ rfl
 simp only[Tryz.ntmps164,List.size_toArray,List.length_cons,List.length_nil,Nat.reduceAdd,Nat.reduceSub,Array.replicate_succ,Array.replicate_zero,List.push_toArray,List.append_toArray,List.nil_append,List.cons_append]
 gi_wp2
 gi_loopw [7] (fun _ wr=>∃k:Nat,k<pcn L∧J k wr∧Hid (ou wr bp bs bv ⟨(rst L k).toArray⟩)∧Hid (W.heap.size≤wr.heap.size)) (fun _ wr=>ssM bs wr)
 case atStart=>exact ⟨0,by unfold pcn;omega,hj0,HS0,Nat.le_refl _⟩
 case round =>
  obtain ⟨k,hk,hj,HSK,HWS⟩:=hrel
  obtain ⟨T,hT⟩:∃T:ByteArray,T=⟨(rst L k).toArray⟩:=⟨_,rfl⟩
  have HTL:Hid (T.data.toList=rst L k):=by rw[Hid,hT]
  have HTS:T.size=(rst L k).length:=by rw[Pl.aK,HTL.out]
  rw[←hT] at HSK
  have ks:=af.cell HSK.out.sep (i:=0) rfl
  have kt:=af.cell HSK.out.txt (i:=0) rfl
  have kv:=af.cell HSK.out.sav (i:=0) rfl
  have HI:Hid _:=yg T 44 wr
  rw[HTL.out] at HI
  have hll:=zg L k
  have HMM:Hid (ssM bs wr=T.data.toList.length):=by rw[Hid];unfold ssM;rw[kt];rfl
  by_cases hlast:k+1<pcn L
  ·obtain ⟨hm1,hm2⟩:=zL L hlast
   rw[hm1] at HI
   obtain ⟨j,hjj⟩:∃j:Nat,j=(pce L k).length:=⟨_,rfl⟩
   rw[←hjj] at HI hm2
   have hjT:j<T.size:=by omega
   have hjT2:(j:Int)≤(T.size:Int):=by omega
   have hjT3:(j:Int)+1≤(T.size:Int):=by omega
   have hT65:(T.size:Int)≤65536:=by have:=HSZ.out;omega
   obtain ⟨fn,tmps,assign,body,hy,hR⟩:=HY.out k wr hj hk
   have hpc:(⟨(pce L k).toArray⟩:ByteArray)=T.extract 0 j:=Et (by rw[ja,hjj,HTL.out];show List.drop 0 (List.take (upto 44 _).length _)=_;rw[sN];rfl)
   rw[hpc] at hy
   have HRI:Hid _:=hR
   have HNX:Hid ((⟨(rst L (k+1)).toArray⟩:ByteArray)=T.extract (j+1) T.size):=Et (by
    rw[ja,HTL.out,List.take_of_length_le (by omega),hjj]
    rfl)
   have HNL:Hid ((T.extract (j+1) T.size).data.toList.length<T.data.toList.length):=by
    rw[Hid,ja,HTL.out,List.take_of_length_le (by omega),List.length_drop]
    omega
   have HKL:Hid (k+1<pcn L):=hlast
   clear hR hm1 hpc hlast hj hk hjj hm2 hll HTS hT
   have hY:(j:Int)≠-1:=by omega
   gi_wp2
   refine ⟨trivial,fun h=>(by cases h),?_⟩
   refine (callsIn_wide.2 HI.out).mono ?_
   rintro e V ⟨rfl,rfl⟩
   gi_wp2
   refine ⟨fun h=>(by cases h),?_⟩
   refine RoundIn.mono HRI.out ?_
   rintro e W3 (⟨rfl,hJ3,hk3⟩ | ⟨ch,rfl,hJp⟩)
   ·have HS3:Hid (ou W3 bp bs bv T):=HSK.out.keep hk3
    have ks3:=af.cell HS3.out.sep (i:=0) rfl
    have kt3:=af.cell HS3.out.txt (i:=0) rfl
    have f0:=af.frozen HS3.out.txt 0
    have HG:Hid (W.heap.size≤W3.heap.size):=Nat.le_trans HWS.out hk3.2.2.2
    clear ks kt kv hk3 HSK HRI HWS
    gi_wp2
    go_roundw
    case rel =>
     refine ⟨k+1,HKL.out,?_,?_,?_⟩
     ·exact HJ.out _ _ _ (some bs) HG.out hJ3 (grownBy_setCell' _ _ _) (fun r hr=>by cases hr;rfl)
     ·rw[Hid,HNX.out];exact HS3.out.set _
     ·exact Nat.le_trans HG.out (grownBy_setCell' _ _ _).size
    case measure =>
     rw[HMM.out]
     have:=af.cell (HS3.out.set (T.extract (j+1) T.size)).txt (i:=0) rfl
     unfold ssM
     rw[this]
     exact HNL.out
   ·exact ⟨rfl,.inr ⟨ch,rfl,hJp⟩⟩
  ·have hlast:k+1=pcn L:=by omega
   obtain ⟨hm1,hm2⟩:=Cf L hlast
   rw[hm1] at HI
   obtain ⟨fn,tmps,assign,body,hy,hR⟩:=HY.out k wr hj hk
   have HRI:Hid _:=hR
   have hpc:(⟨(pce L k).toArray⟩:ByteArray)=T:=by rw[hm2,←hT]
   rw[hpc] at hy
   clear hR hm1 hm2 hpc hj hk hll HTS hT
   gi_wp2
   refine ⟨trivial,fun h=>(by cases h),?_⟩
   refine (callsIn_wide.2 HI.out).mono ?_
   rintro e V ⟨rfl,rfl⟩
   gi_wp2
   refine ⟨fun h=>(by cases h),?_⟩
   refine RoundIn.mono HRI.out ?_
   rintro e W3 (⟨rfl,hJ3,hk3⟩ | ⟨ch,rfl,hJp⟩)
   ·rw[hlast] at hJ3
    clear ks kt kv hk3 HSK HRI hy
    gi_wp2
    go_end0
    exact .inl ⟨⟨_,rfl⟩,hJ3⟩
   ·exact ⟨rfl,.inr ⟨ch,rfl,hJp⟩⟩
end
section
open Go.RowKit PK Vg
set_option maxRecDepth 100000 in
set_option maxHeartbeats 2000000 in
theorem ko (s:ByteArray) (hl:Ls s.data.toList) (hs:s.size=26) (w:World):Calls Tryz.prog 149 #[.string s] w fun e w'=>e=.returned (.agg (ints 26 (spl s.data.toList)))∧Below w.heap.size w w':=by
 have hz26:=cm c6
 have h0:=mO.new w
 have HL:=(show Hid (Ls s.data.toList) from hl)
 have hslen:=Pl.aK s
 go_enter Tryz.func149,Tryz.ntmps149
 go_wp2_with fail
 clear hz26
 go_loopw [5] (fun i V=>∃k:Nat,k≤26∧i=.int .i64 (k:Nat)∧mO w V fun c=>if c<k then spl s.data.toList c else 0) (fun i _=>((26:Int)-intOf i).toNat)
 case atStart=>exact ⟨0,by omega,rfl,by simpa using h0⟩
 case round =>
  clear h0
  obtain ⟨k,hk,rfl,hg⟩:=hrel
  by_cases hlt:k<26
  ·have HLT:Hid (k<26):=hlt
   have hk2:(k:Int)<(s.size:Int):=by omega
   have hks:k<s.size:=by omega
   have hxl:=HL.out.at (jH hks)
   have hby:s[k]=s.data.toList.getD k 0:=(ei s k hks).symm
   have hsp:spl s.data.toList k=((Vg.num (s.data.toList.getD k 0):Nat):Int):=by unfold spl;rw[if_pos (by omega)]
   have HNX:Hid (∀V,mO w V (fun c=>if c<k then spl s.data.toList c else 0)→mO w (V.setCell ⟨w.heap.size+1,k,none⟩ (.int .i64 (Vg.num (s.data.toList.getD k 0):Nat))) fun c=>if c<k+1 then spl s.data.toList c else 0):=fun V hg=>by
    have:=hg.set k (Vg.num (s.data.toList.getD k 0):Nat)
    have e:upd (fun c=>if c<k then spl s.data.toList c else 0) k (Vg.num (s.data.toList.getD k 0):Nat)=fun c=>if c<k+1 then spl s.data.toList c else 0:=by
     funext i
     unfold upd
     by_cases e:i=k
     ·rw[if_pos e,if_pos (by omega),e,hsp]
     ·rw[if_neg e]
      show (if i<k then spl s.data.toList i else 0)=_
      by_cases e2:i<k
      ·rw[if_pos e2,if_pos (by omega)]
      ·rw[if_neg e2,if_neg (by omega)]
    rw[e] at this
    exact this
   clear hsp
   have hck:=hg.o.cell (aB (fun c=>if c<k then spl s.data.toList c else 0) hlt)
   have hfk:=hg.o.frozen k
   generalize s.data.toList.getD k 0=x at *
   have HX:=(show Hid _ from hxl)
   have HG:=(show Hid _ from HNX.out _ hg)
   clear hxl hg HNX
   go_wp2_with fail
   refine (kE x HX.out _).mono ?_
   rintro e V ⟨rfl,rfl⟩
   generalize Vg.num x=nx at *
   clear hby
   go_wp2
   go_roundw
   case rel=>exact ⟨k+1,HLT.out,by go_num,HG.out⟩
   case measure=>have:=HLT.out;simp[intOf];omega
  ·obtain rfl:k=26:=by omega
   have hr:=hg.r
   have ho:af wr (w.heap.size+1) 25 (ints 26 (spl s.data.toList)):=by
    have:=hg.o
    rw[bO (g:=spl s.data.toList) fun i hi=>by rw[if_pos hi]] at this
    exact this
   have hbe:=hg.below
   clear hg
   go_wp2_with (first | refine wpList_load_row rfl 25 _ rfl (w.heap.size+1) rfl 25 (ints 26 (spl s.data.toList)) (0,0) _ ho Tryz.underlying25 rfl (by rw[ag];exact aj) ?_ | refine wpList_store_row rfl 25 _ _ rfl w.heap.size (ints 26 (spl s.data.toList)) rfl rfl 25 _ hr (by rw[ag];exact aj) (by simp only[ag]) (aI _ _) ?_)
   exact bodyPost_ret (v:=.agg (ints 26 (spl s.data.toList))) (ie Tryz.results149 _ _ _ _ _ _ _ rfl (hr.row _) Tryz.underlying25 rfl (by rw[ag];exact aj)) rfl ⟨rfl,Below.setRow hbe _ (Nat.le_refl _) _⟩
set_option maxRecDepth 100000 in
set_option maxHeartbeats 2000000 in
theorem eP (s:ByteArray) (hl:Ls s.data.toList) (hs:s.size=26) (x:UInt8) (hx:65≤x.toNat∧x.toNat≤90) (w:World):Calls Tryz.prog 148 #[.string s,.int .u8 (x.toNat:Nat)] w fun e w'=>∃B,e=.returned (.agg (whl (spl s.data.toList) (.slice (some ⟨B,0,none⟩) 1 1)))∧w.heap.size≤B∧aq w' (.slice (some ⟨B,0,none⟩) 1 1) [Vg.num x].length (fun i=>(([Vg.num x].getD i 0:Nat):Int))∧Below w.heap.size w w':=by
 have hz27:=cm fP
 have hr0:=af.new w 104 (whl (fun _=>0) (.slice none 0 0))
 have hb0:Below w.heap.size w (w.alloc (.cells (whl (fun _=>0) (.slice none 0 0)) 104)):=(Below.refl _ w).alloc (Nat.le_refl _) _
 have HP:=(show Hid (∀W,Calls Tryz.prog 149 #[.string s] W fun e w'=>e=.returned (.agg (ints 26 (spl s.data.toList)))∧Below W.heap.size W w') from fun W=>ko s hl hs W)
 have HX:=(show Hid _ from hx)
 clear hx hl hs
 go_enter Tryz.func148,Tryz.ntmps148
 go_wp2_with fail
 refine (HP.out _).mono ?_
 rintro e V ⟨rfl,hb⟩
 have hr1:=hr0.below hb hr0.lt
 have hb1:=hb0.trans (hb.mono hb0.size)
 have hsz:=hr1.lt
 clear hb hr0 hb0 HP hz27
 go_wp2_with fail
 refine (kE x HX.out _).mono ?_
 rintro e V2 ⟨rfl,rfl⟩
 have HN:=(show Hid _ from EN V (Vg.num x))
 have hr2:=hr1.alloc (.cells #[.int .i64 (Vg.num x:Nat)] 3)
 have hb2:=hb1.alloc hb1.size (.cells #[.int .i64 (Vg.num x:Nat)] 3)
 go_wp2_with (first | refine dS rfl 104 [(0,.tmp 6),(1,.tmp 9)] rfl [(0,.agg (ints 26 (spl s.data.toList))),(1,.slice (some ⟨V.heap.size,0,none⟩) 1 1)] rfl _ (Af (spl s.data.toList) _ 1 1) ?_ | refine wpList_store_row rfl 104 _ _ rfl w.heap.size (whl (spl s.data.toList) (.slice (some ⟨V.heap.size,0,none⟩) 1 1)) rfl rfl 104 _ hr2 (by rw[aH];exact aT) (by simp only[aH]) (eM rfl) ?_)
 exact bodyPost_ret (v:=.agg (whl (spl s.data.toList) (.slice (some ⟨V.heap.size,0,none⟩) 1 1))) (ie Tryz.results148 _ _ _ _ _ _ _ rfl (hr2.row _) Tryz.underlying104 rfl (by rw[aH];exact aT)) rfl ⟨V.heap.size,rfl,by omega,gS HN.out _ _ (by intro e;injection e with e;exact absurd e (by show ¬V.heap.size=w.heap.size;omega)),Below.setRow hb2 _ (Nat.le_refl _) _⟩
set_option maxRecDepth 100000 in
set_option maxHeartbeats 1000000 in
theorem yZ (name:ByteArray) (w:World):Calls Tryz.prog 122 #[.string name] w fun e w'=>e=.returned (.tuple #[.agg (ints 26 (miP name.data.toList)),.int .i64 (miE name.data.toList)])∧Below w.heap.size w w':=by
 have hz26:=cm c6
 have hr0:=af.new w 25 (ints 26 fun _=>0)
 have hb0:Below w.heap.size w (w.alloc (.cells (ints 26 fun _=>0) 25)):=(Below.refl _ w).alloc (Nat.le_refl _) _
 have hB:=(show Hid (∀W,Calls Tryz.prog 149 #[.string ⟨#[89,82,85,72,81,83,76,68,80,88,78,71,79,75,77,73,69,66,70,90,67,87,86,74,65,84]⟩] W fun e w'=>e=.returned (.agg (ints 26 (spl miB)))∧Below W.heap.size W w') from fun W=>ko ⟨miB.toArray⟩ (kJ (by decide)) (by decide) W)
 have hC:=(show Hid (∀W,Calls Tryz.prog 149 #[.string ⟨#[70,86,80,74,73,65,79,89,69,68,82,90,88,87,71,67,84,75,85,81,83,66,78,77,72,76]⟩] W fun e w'=>e=.returned (.agg (ints 26 (spl miC)))∧Below W.heap.size W w') from fun W=>ko ⟨miC.toArray⟩ (kJ (by decide)) (by decide) W)
 have q1:=ia [66] name
 have q2:=ia [67] name
 by_cases h1:name.data.toList=[66]
 ·have HP:Hid (miP name.data.toList=spl miB):=by unfold miP;rw[Hid,if_pos h1]
  have HE:Hid (miE name.data.toList=0):=by unfold miE;rw[Hid,if_pos (.inl h1)]
  rw[decide_eq_true h1] at q1
  clear h1 q2 hC
  go_enter Tryz.func122,Tryz.ntmps122
  go_wp2_with fail
  refine (hB.out _).mono ?_
  rintro e W1 ⟨rfl,hb⟩
  have hr1:=hr0.below hb hr0.lt
  have hb1:=hb0.trans (hb.mono hb0.size)
  clear hb hB hr0 hb0
  go_wp2_with (first | refine wpList_store_row rfl 25 _ _ rfl w.heap.size (ints 26 (spl miB)) rfl rfl 25 _ hr1 (by rw[ag];exact aj) (by simp only[ag]) (aI _ _) ?_)
  exact bodyPost_ret (v:=.tuple #[.agg (ints 26 (spl miB)),.int .i64 0]) (aG rfl _ _ w.heap.size 25 _ (0,0) _ _ rfl rfl (hr1.row _) Tryz.underlying25 rfl (by rw[ag];exact aj)) rfl ⟨by rw[HP.out,HE.out],Below.setRow hb1 _ (Nat.le_refl _) _⟩
 ·rw[decide_eq_false h1] at q1
  by_cases h2:name.data.toList=[67]
  ·have HP:Hid (miP name.data.toList=spl miC):=by unfold miP;rw[Hid,if_neg h1,if_pos h2]
   have HE:Hid (miE name.data.toList=0):=by unfold miE;rw[Hid,if_pos (.inr h2)]
   rw[decide_eq_true h2] at q2
   clear h1 h2 hB
   go_enter Tryz.func122,Tryz.ntmps122
   go_wp2_with fail
   refine (hC.out _).mono ?_
   rintro e W1 ⟨rfl,hb⟩
   have hr1:=hr0.below hb hr0.lt
   have hb1:=hb0.trans (hb.mono hb0.size)
   clear hb hC hr0 hb0
   go_wp2_with (first | refine wpList_store_row rfl 25 _ _ rfl w.heap.size (ints 26 (spl miC)) rfl rfl 25 _ hr1 (by rw[ag];exact aj) (by simp only[ag]) (aI _ _) ?_)
   exact bodyPost_ret (v:=.tuple #[.agg (ints 26 (spl miC)),.int .i64 0]) (aG rfl _ _ w.heap.size 25 _ (0,0) _ _ rfl rfl (hr1.row _) Tryz.underlying25 rfl (by rw[ag];exact aj)) rfl ⟨by rw[HP.out,HE.out],Below.setRow hb1 _ (Nat.le_refl _) _⟩
  ·have HP:Hid (miP name.data.toList=fun _=>0):=by unfold miP;rw[Hid,if_neg h1,if_neg h2]
   have HE:Hid (miE name.data.toList=7):=by unfold miE;rw[Hid,if_neg (fun h=>h.elim h1 h2)]
   rw[decide_eq_false h2] at q2
   clear h1 h2 hB hC
   have hr1:=hr0
   go_enter Tryz.func122,Tryz.ntmps122
   go_wp2_with (first | refine cP rfl 25 rfl _ wY ?_ | refine wpList_store_row rfl 25 _ _ rfl w.heap.size (ints 26 fun _=>0) rfl rfl 25 _ hr1 (by rw[ag];exact aj) (by simp only[ag]) (aI _ _) ?_)
   exact bodyPost_ret (v:=.tuple #[.agg (ints 26 fun _=>0),.int .i64 7]) (aG rfl _ _ w.heap.size 25 _ (0,0) _ _ rfl rfl (hr1.row _) Tryz.underlying25 rfl (by rw[ag];exact aj)) rfl ⟨by rw[HP.out,HE.out],Below.setRow hb0 _ (Nat.le_refl _) _⟩
end
section
open Go.RowKit PK
end
section
open Go.RowKit PK
def jz (a:Nat→Nat) (v:Nat→Int):Nat→Nat→Int
 | 0=>fun _=>0
 | k+1=>upd (jz a v k) (a k) (v k)
set_option maxHeartbeats 1000000 in
theorem uY (m:Nat) (cap:Array Value) (a:Nat→Nat) (v:Nat→Int) (ha:∀i,i<26→a i<26) (w:World) (hent:∀(args:Array Value) (W:World),(callFunc m args).run Tryz.prog W=.ok (.enter m args) W)
  (hp:∀i,i<26→∀W:World,Below w.heap.size w W→Calls Tryz.prog m (#[.int .i64 (i:Nat)]++cap) W fun e w'=>e=.returned (.tuple #[.int .i64 (a i:Nat),.int .i64 (v i)])∧Below W.heap.size W w') :
  Calls Tryz.prog 93 #[.func (.func m) #[] cap] w fun e w'=>e=.returned (.agg (ints 26 (jz a v 26)))∧Below w.heap.size w w':=by
 have HP:Hid (∀i,i<26→∀W:World,Below w.heap.size w W→Calls Tryz.prog m (#[.int .i64 (i:Nat)]++cap) W fun e w'=>e=.returned (.tuple #[.int .i64 (a i:Nat),.int .i64 (v i)])∧Below W.heap.size W w'):=hp
 clear hp
 go_enter Tryz.func93,Tryz.ntmps93
 go_wp2
 rw[kP]
 go_loopw [7] (fun i W=>∃k:Nat,k≤26∧i=.int .i64 k∧af W w.heap.size 25 (ints 26 fun _=>0)∧af W (w.heap.size+1) 25 (ints 26 (jz a v k))∧Below w.heap.size w W) (fun i _=>(26-intOf i).toNat)
 case atStart =>
  refine ⟨0,by omega,rfl,(af.new w _ _).alloc _,?_,((Below.refl _ _).alloc (Nat.le_refl _) _).alloc (by simp) _⟩
  have:=af.new (w.alloc (Obj.cells (ints 26 fun _=>0) 25)) 25 (ints 26 fun x=>0)
  rw[World.size_alloc] at this
  exact this
 case round =>
  obtain ⟨k,hk,rfl,hrow0,hrow,hb⟩:=hrel
  by_cases hlt:k<26
  ·have ha':=ha k hlt
   have hsz:=hb.size
   have h1:=hrow.lt
   have HW:=HP.out k hlt wr hb
   have HV:Hid (Calls Tryz.prog m (#[.int .i64 (k:Nat)]++cap) wr fun e w'=>e=.returned (.tuple #[.int .i64 (a k:Nat),.int .i64 (v k)])∧Below wr.heap.size wr w'):=HW
   clear HW
   obtain ⟨n,hn⟩:∃n:Nat,n=a k:=⟨_,rfl⟩
   rw[←hn] at HV ha'
   have HNN:Hid (n=a k):=hn
   clear hn
   go_wp2_with fail
   refine HV.out.mono ?_
   rintro e w1 ⟨rfl,hb1⟩
   have hrow1:=hrow.below hb1 h1
   have hc:=hrow1.cell (aB (jz a v k) ha')
   have hf:=hrow1.frozen n
   go_wp2
   go_roundw
   case rel =>
    refine ⟨k+1,by omega,by go_num,?_,?_,?_⟩
    ·exact (hrow0.below hb1 hrow0.lt).setOther _ _ (by simp)
    ·have:=hrow1.set n (.int .i64 (v k))
     rw[ints_set] at this
     show af _ _ _ (ints 26 (upd (jz a v k) (a k) (v k)))
     rw[←HNN.out]
     exact this
    ·exact (hb.trans (hb1.mono hsz)).setCell (by simp) _
   case measure=>simp[intOf];omega
  ·have HK:Hid (k=26):=by rw[Hid];omega
   have h1:=hrow.lt
   go_wp2_with (first
    | refine wpList_load_row rfl 25 _ rfl (w.heap.size+1) rfl 25 (ints 26 (jz a v k)) (0,0) _ hrow Tryz.underlying25 rfl (by rw[ag];exact aj) ?_
    | refine wpList_store_row rfl 25 _ _ rfl w.heap.size (ints 26 (jz a v k)) rfl rfl 25 _ hrow0 (by rw[ag];exact aj) (by simp only[ag]) (aI _ _) ?_)
   refine bodyPost_ret (v:=.agg (ints 26 (jz a v k))) (results_cell_row rfl _ _ w.heap.size 25 _ (0,0) _ rfl (hrow0.row _) Tryz.underlying25 rfl (by rw[ag];exact aj)) rfl ⟨by rw[HK.out],Below.setRow hb _ (Nat.le_refl _) _⟩
end
section
open Go.RowKit PK
theorem vp (a:Nat→Nat) (v:Nat→Int) (hi:∀i j,i<26→j<26→a i=a j→i=j):∀k,k≤26→∀i,i<k→jz a v k (a i)=v i
 | 0,_,i,h=>by omega
 | k+1,hk,i,h=>by
  show upd (jz a v k) (a k) (v k) (a i)=v i
  by_cases e:i=k
  ·subst e;simp
  ·rw[cj _ _ (fun e2=>e (hi i k (by omega) (by omega) e2))]
   exact vp a v hi k (by omega) i (by omega)
theorem CF (v:Nat→Int):ints 26 (jz (fun i=>i) v 26)=ints 26 v:=bO fun j hj=>vp (fun i=>i) v (fun _ _ _ _ e=>e) 26 (Nat.le_refl _) j hj
set_option maxHeartbeats 400000 in
theorem yd (i:Int) (w:World):Calls Tryz.prog 94 #[.int .i64 i] w fun e w'=>e=.returned (.tuple #[.int .i64 i,.int .i64 i])∧w=w':=by
 go_enter Tryz.func94,Tryz.ntmps94
 go_wp2
 go_ret2
 exact ⟨rfl,rfl⟩
set_option maxHeartbeats 1000000 in
theorem AS (w:World):Calls Tryz.prog 57 #[] w fun e w'=>e=.returned (.agg (ints 26 (Pm.up fun i=>i)))∧Below w.heap.size w w':=by
 go_enter Tryz.func57,Tryz.ntmps57
 go_wp2_with fail
 rw[kP]
 refine (uY 94 #[] (fun i=>i) (Pm.up fun i=>i) (fun _ h=>h) _ (by intro args W;go_simp) (fun i hi W _=>(yd i W).mono ?_)).mono ?_
 ·rintro e w' ⟨rfl,rfl⟩
  exact ⟨rfl,Below.refl _ _⟩
 ·rintro e w1 ⟨rfl,hb1⟩
  rw[CF]
  have hrow:=(af.new w 25 (ints 26 fun _=>0)).below hb1 (by simp)
  go_wp2_with (refine wpList_store_row rfl 25 _ _ rfl w.heap.size (ints 26 (Pm.up fun i=>i)) rfl rfl 25 _ hrow (by rw[ag];exact aj) (by simp only[ag]) (aI _ _) ?_)
  exact bodyPost_ret (v:=.agg (ints 26 (Pm.up fun i=>i))) (results_cell_row rfl _ _ w.heap.size 25 _ (0,0) _ rfl (hrow.row _) Tryz.underlying25 rfl (by rw[ag];exact aj)) rfl ⟨rfl,Below.setRow (((Below.refl _ _).alloc (Nat.le_refl _) _).trans (hb1.mono (by simp))) _ (Nat.le_refl _) _⟩
def C0 (f g:Nat→Int):Nat→Nat→Int:=fun k=>if k=0 then f else g
theorem og:Tryz.prog.built 25 []=some (ints 26 fun _=>0):=by kernel_rfl
end
end Go.Proofs.YtgacaecjinlhiaaGreatDoor
