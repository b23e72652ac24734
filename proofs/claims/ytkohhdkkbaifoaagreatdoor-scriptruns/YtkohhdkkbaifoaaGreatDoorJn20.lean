/-
  Several texts, joined: ScQ, ScR, LdA, RfA, ScJ, ScV, ORKn, OAl.
-/
import Derived.Test.YtkohhdkkbaifoaaGreatDoorJn2
import Derived.Test.YtkohhdkkbaifoaaGreatDoorScI
import Derived.Shelf.Strconv.AtoiAll
import Derived.Test.YtkohhdkkbaifoaaGreatDoorRows
import Derived.Stop.LaidErr
import Derived.LaidLaws
import Derived.Lay
import Derived.LaidMore
import Derived.MakeChecks
import Derived.LaidHandle
import Derived.RangeFuncNested
import Derived.RangeFuncBound
import Derived.RangeFuncCalls
import Derived.RangeFuncLeaves
import Derived.Shelf.Abstract
import Derived.Shelf.RegionOpen
import Derived.WalkKit
import Derived.OwnWalkIn
import Derived.TacticsInMore
import Derived.LoopNIn
import Derived.LoopIn
import Derived.Test.YtkohhdkkbaifoaaGreatDoorJn17
import Derived.Test.YtkohhdkkbaifoaaGreatDoorJn16
/-
  Numbers in words: isNumber, strconv.Atoi, (word).number.
-/
namespace Go.Proofs.YtkohhdkkbaifoaaGreatDoor
open Go.Shelf Go.RowKit PK Vg

shelf_lay LaysC.n172 Nm 172 at Tryz as Tryz.laysAtoi
end Go.Proofs.YtkohhdkkbaifoaaGreatDoor

/-
  Names of steps: script.named.
-/
namespace Go.Proofs.YtkohhdkkbaifoaaGreatDoor
open Go.RowKit PK Vg

theorem run_index_strs {P:Program} (t e:TypeId) (n:Nat) (hu:P.underlying t=some (.array n e)) (he:P.underlying e=some .string) (hs:(P.info? e).map (·.size)=some 1) (f:Nat→ByteArray) (k:Nat) (hk:k<n) (w:World) :
  (Instr.index t (.agg (tab n fun i=>.string (f i))) (.int .i64 (k:Int))).run P w=.ok (.string (f k)) w:=by
 cases hq:P.info? e with
 | none=>simp[hq] at hs
 | some i =>
  have h1:i.size=1:=by simpa [hq] using hs
  have h2:((k:Int)<(n:Int)):=by omega
  simp[Instr.index,asIntOf,Sem.run_bind,run_underlying hu,part,isAgg,run_underlying he,sizeOf,typeInfo,hq,h1,hk,tab_get (fun i=>Value.string (f i)) hk]
theorem str_info:(Tryz.prog.info? 9).map (·.size)=some 1:=by kernel_rfl
def nmN:Nat→ByteArray
 | 1=>⟨#[109,111,118,101]⟩
 | 3=>⟨#[114,97,105,108]⟩
 | 4=>⟨#[99,111,108,117,109,110,115]⟩
 | 5=>⟨#[104,105,108,108]⟩
 | 6=>⟨#[114,111,116,111,114]⟩
 | _=>⟨#[]⟩
def tbN:Nat→ByteArray
 | 1=>⟨#[118,105,103,101,110,101,114,101]⟩
 | 2=>⟨#[98,101,97,117,102,111,114,116]⟩
 | 3=>⟨#[118,97,114,105,97,110,116]⟩
 | 4=>⟨#[97,117,116,111,107,101,121]⟩
 | _=>⟨#[]⟩
def nmA:Array Value:=tab 7 fun i=>.string (nmN i)
def tbA:Array Value:=tab 5 fun i=>.string (tbN i)
structure NmAt (w:World):Prop where
 kn:w.rangeAt 1 0 nmA.toList
 tb:w.rangeAt 0 0 tbA.toList
theorem NmAt.below {w w':World} (h:NmAt w) (hb:Below w.heap.size w w'):NmAt w':=⟨rangeAt_below h.kn hb,rangeAt_below h.tb hb⟩
theorem wpList_bA {P:Program} {ops:Array Oper} {rest:List Oper} {op:Oper} {a:Act} {w:World} {Q:Exit→Act→World→Prop} (hgd:op.guard=none) (t:TypeId) (xs:List (Nat × Operand)) (ho:op.op=.build t xs.toArray) (vs:List (Nat × Value)) (hv:xs.map (fun x=>(x.1,a.eval x.2))=vs)
  (cells:Array Value) (hb:P.built t vs=some cells) (h:wpList P ops Q rest (a.put op.dst (.agg cells)) w):wpList P ops Q (op :: rest) a w:=by
 refine wpList_build hgd t xs.toArray ho ?_ ?_
 ·simp only[List.map_toArray]
  rw[show (List.map (fun x:Nat × Operand=>(x.1,a.eval x.2)) xs)=vs from hv]
  simp[hb]
 ·simp only[List.map_toArray]
  rw[show (List.map (fun x:Nat × Operand=>(x.1,a.eval x.2)) xs)=vs from hv]
  simp only[hb,Option.getD_some]
  exact h
end Go.Proofs.YtkohhdkkbaifoaaGreatDoor

/-
  What the listed package-level variables give: the tables of names, and strconv's ErrRange.
-/
namespace Go.Proofs.YtkohhdkkbaifoaaGreatDoor
open Go.RowKit PK

theorem laid_range {n:String} {bs:List (List UInt8)} {r:List (String × DataW Unit)} {W:World} {g k:Nat} {t:TypeId} (h:laidMet Tryz.prog ((n,.agg (bs.map fun b=>.lit (.string b))) :: r) W) (hg0:Tryz.prog.globalNamed n=some g) (ht0:(Tryz.prog.globals[g]?).map (·.type)=some t) (hu:Tryz.prog.underlying t=some (.array k 9)) (hk:bs.length=k):W.rangeAt g 0 (bs.map fun b=>Value.string ⟨b.toArray⟩):=by
 obtain ⟨ps,⟨g,t,cs,fuel,p,q,hg,ht,hv,hd,_,_⟩,_,_⟩:=h
 obtain rfl:=Option.some.inj (hg0.symm.trans hg)
 obtain rfl:=Option.some.inj (ht0.symm.trans ht)
 obtain ⟨xs,m,_,ex,_,hl,hel⟩:=DataW.trod_array hu hd
 have c9:Tryz.prog.cellsOf 9=1:=by kernel_rfl
 intro i v hvi
 have hi:i<k:=by
  have:=(List.getElem?_eq_some_iff.1 hvi).1
  rw[List.length_map] at this
  omega
 have hE:=hel i hi
 rw[c9,Nat.mul_one,List.getElem?_eq_getElem (by omega)] at hE
 obtain ⟨z,e1,e2,_⟩:=DataW.trod_string Tryz.underlying9 hE
 have e3:(xs.map (·.1))=bs.map fun b=>.lit (.string b):=(DataW.agg.inj (Prod.mk.inj ex).1).symm
 have e4:(xs.map (·.1))[i]? = (bs.map fun b=>(DataW.lit (.string b):DataW Unit))[i]?:=by rw[e3]
 rw[List.getElem?_map,List.getElem?_map,List.getElem?_eq_getElem (by omega:i<xs.length),List.getElem?_eq_getElem (by omega:i<bs.length),e2] at e4
 rw[List.getElem?_map,List.getElem?_eq_getElem (by omega:i<bs.length)] at hvi
 simp only[Option.map_some,Option.some.injEq,DataW.lit.injEq,Lit.string.injEq] at e4 hvi
 rw[Nat.zero_add,World.var?_cell hg hv i,←hvi,←e4]
 have:cs.toList[i]? = some (.string z):=by
  have h0:((cs.toList.drop i).take 1)[0]? = some (.string z):=by rw[e1];rfl
  simpa using h0
 simpa using this
theorem g_kinds : Tryz.prog.globalNamed "blackroom/script.kinds" = some 1 := by kernel_rfl
theorem g_tabl : Tryz.prog.globalNamed "blackroom/script.tableaux" = some 0 := by kernel_rfl
theorem gt_kinds:(Tryz.prog.globals[1]?).map (·.type)=some 171:=by kernel_rfl
theorem gt_tabl:(Tryz.prog.globals[0]?).map (·.type)=some 170:=by kernel_rfl
theorem laid_kinds {r : List (String × DataW Unit)} {W : World} (h : laidMet Tryz.prog (("blackroom/script.kinds", Rows.laid_blackroom_script_kinds) :: r) W) : W.rangeAt 1 0 nmA.toList := by
 have:=laid_range (bs:=[[],[109,111,118,101],[],[114,97,105,108],[99,111,108,117,109,110,115],[104,105,108,108],[114,111,116,111,114]]) h g_kinds gt_kinds Tryz.underlying171 rfl
 rw[show nmA.toList=List.map (fun b:List UInt8=>Value.string ⟨b.toArray⟩) [[],[109,111,118,101],[],[114,97,105,108],[99,111,108,117,109,110,115],[104,105,108,108],[114,111,116,111,114]] by kernel_rfl]
 exact this
theorem laid_tabl {r : List (String × DataW Unit)} {W : World} (h : laidMet Tryz.prog (("blackroom/script.tableaux", Rows.laid_blackroom_script_tableaux) :: r) W) : W.rangeAt 0 0 tbA.toList := by
 have:=laid_range (bs:=[[],[118,105,103,101,110,101,114,101],[98,101,97,117,102,111,114,116],[118,97,114,105,97,110,116],[97,117,116,111,107,101,121]]) h g_tabl gt_tabl Tryz.underlying170 rfl
 rw[show tbA.toList=List.map (fun b:List UInt8=>Value.string ⟨b.toArray⟩) [[],[118,105,103,101,110,101,114,101],[98,101,97,117,102,111,114,116],[118,97,114,105,97,110,116],[97,117,116,111,107,101,121]] by kernel_rfl]
 exact this
end Go.Proofs.YtkohhdkkbaifoaaGreatDoor

/-
  A range over a function whose body may throw: the law of the loop, with a panic within a round taken in. No program is named here.
-/
namespace Go.Proofs.YtkohhdkkbaifoaaGreatDoor
open Go.RowKit

variable {F:Fence} {n:Nat} {P:Program}

def roundPostP (P:Program) (l:Nat) (R:Ending→World→Prop):Exit→Act→World→Prop
 | .normal,_,w=>∃v w',(Instr.endRound l none).run P w=.ok v w'∧R (.returned v) w'
 | .panic ch,a,w=>a.defers=[]∧R (.panicked ch) w
 | _,_,_=>False

theorem roundIn_of_wpInP {l:Nat} {f:FuncId} {tmps:Array Value} {assign body:Code} {w:World} {R:Ending→World→Prop} (hF:F.fn f) (hfn:∃fn,P.funcs[f]? = some fn)
  (h:assign.wpIn (F.inRound l) n P (Exit.then (fun a₁ w₁=>∃w₂,(Instr.beginRound l).run P w₁=.ok () w₂∧body.wpIn (F.inRound l) n P (roundPostP P l R) a₁ w₂) (fun _ _ _=>False))
   { tmps:=tmps,defers:=[] } w) :
  RoundIn F n P l f tmps assign body w R:=by
 refine ⟨hF,fun c cs hr=>?_⟩
 let b:Frame:={ (default:Frame) with fn:=f,kind:=.normal,roundOf:=some l }
 have hb0:Frame.round l f tmps assign body .normal=b.atR { tmps:=tmps,defers:=[] } [.code assign,.beginRound,.code body]:=by
  simp[Frame.round,Frame.atR,b]
 have hr':(F.inRound l).room ((c :: cs).length+1+n):=hr
 have hF':(F.inRound l).fn b.fn:=hF
 obtain ⟨e,a₁,w₁,hq,harr⟩:=h b [.beginRound,.code body] (c :: cs) rfl hF' hr'
 rw[←hb0] at harr
 cases e with
 | normal =>
  obtain ⟨w₂,hbr,hbody⟩:=hq
  have s1:StepsIn (Machine.fenced P (F.inRound l)) P (lone (b.atR a₁ [.beginRound,.code body]) (c :: cs) w₁) (lone (b.atR a₁ [.code body]) (c :: cs) w₂) :=
   .one (fenced_calm (fr:=b.atR a₁ [.beginRound,.code body]) hF' hr' rfl) (stepR_beginRound rfl hbr)
  obtain ⟨e₂,a₂,w₃,hq₂,harr₂⟩:=hbody b [] (c :: cs) rfl hF' hr'
  cases e₂ with
  | normal =>
   obtain ⟨v,w₄,hend,hR⟩:=hq₂
   exact ⟨.returned v,w₄,hR,(StepsIn.trans harr s1).trans (StepsIn.trans harr₂ (.one (fenced_calm (fr:=b.atR a₂ []) hF' hr' rfl) (stepR_round_end rfl rfl hend)))⟩
  | panic chain =>
   obtain ⟨hd,hR⟩:=hq₂
   obtain ⟨todo,hs⟩:=harr₂
   have hl:({ b.atR a₂ todo with mode:=.panicking chain }:Frame).leaving P w₃ (.panicked chain):=⟨rfl,hd,hfn⟩
   have hi:(lone { b.atR a₂ todo with mode:=.panicking chain } (c :: cs) w₃).fenced P (F.inRound l):=fenced_leaving hF' hr' hl
   exact ⟨.panicked chain,w₃,hR,(StepsIn.trans harr s1).trans (StepsIn.trans hs (.one hi (step_leave_panicked hl)))⟩
  | ret=>exact hq₂.elim
  | exit id=>exact hq₂.elim
  | goto t=>exact hq₂.elim
  | outgrown=>exact hq₂.elim
 | exit id=>exact hq.elim
 | goto t=>exact hq.elim
 | ret=>exact hq.elim
 | panic chain=>exact hq.elim
 | outgrown=>exact hq.elim

def AbidesOf (B:Nat) (Ob:Nat→Prop) (J:Nat→World→Prop):Prop :=
 ∀s W W' row,B≤W.heap.size→J s W→W.grownBy W' row→(∀r,row=some r→Ob r)→J s W'
def SeqAll (F:Fence) (n:Nat) (P:Program) (g:Nat) (lb:Array Value) (N:Nat) (xs:Nat→Array Value) (Ob:Nat→Prop) (Kp:World→World→Prop) (w:World):Prop :=
 ∀(l:Nat) (J:Nat→World→Prop) (Jp:List PanicEntry→World→Prop) (W:World),Below w.heap.size w W→AbidesOf W.heap.size Ob J →
  (∀k W1,J k W1→k<N→YieldAt F (n-1) P l (xs k) W1 fun e W' =>
   (e=.returned (.bool true)∧J (k+1) W'∧Kp W1 W')∨(∃ch,e=.panicked ch∧Jp ch W')) →
  J 0 W →
  CallsIn F n P g (#[.func (.yield l) #[] #[]]++lb) W fun e W'=>((∃v,e=.returned v)∧J N W')∨(∃ch,e=.panicked ch∧Jp ch W')

def ownPostP (Kp:World→World→Prop) (I:Nat→World→Prop) (Ip:List PanicEntry→World→Prop) (k:Nat) (W:World):Exit→Act→World→Prop
 | .normal,_,W'=>KeepsOthers W W'∧Kp W W'∧I k W'
 | .panic ch,a,W'=>a.defers=[]∧KeepsOthers W W'∧Ip ch W'
 | _,_,_=>False

def OwnOf (B:Nat) (Ob:Nat→Prop) (I:Nat→World→Prop):Prop :=
 ∀s W W' row,I s W→W.grownBy W' row→(∀r,row=some r→(B≤r∧∃o:Obj,W.heap[r]? = some o∧o.isCells=false)∨Ob r)→I s W'
theorem OwnOf.putObj {B:Nat} {Ob:Nat→Prop} {I:Nat→World→Prop} (h:OwnOf B Ob I) {s:Nat} {W:World} {l:Nat} {o:Obj} (o':Obj) (hs:I s W) (hB:B≤l) (hl:W.heap[l]? = some o) (ho:o.isCells=false):I s (W.putObj l o') :=
 h s W _ (some l) hs (grownBy_putObj' W l o') (fun r e=>by cases e;exact .inl ⟨hB,o,hl,ho⟩)
theorem OwnOf.alloc {B:Nat} {Ob:Nat→Prop} {I:Nat→World→Prop} (h:OwnOf B Ob I) {s:Nat} {W:World} (o:Obj) (hs:I s W):I s (W.alloc o) :=
 h s W _ none hs (World.grownBy_alloc W o none) (fun r e=>by cases e)
theorem rangeFunc_all {g:Operand} {ps:Array Tmp} {assign body:Code} {Q:Exit→Act→World→Prop} {a:Act} {w:World} (fn:FuncId) (hfn:F.fn fn) (hfns:∃f,P.funcs[fn]? = some f)
  (h1:1≤n) {gf:Nat} {lb:Array Value} (hg:a.eval g=.func (.func gf) #[] lb) (hFg:F.fn gf) (eg:∀args w,(callFunc gf args).run P w=.ok (.enter gf args) w)
  {N:Nat} {xs:Nat→Array Value} {Ob:Nat→Prop} {Kp:World→World→Prop} {w0:World} (hseq:SeqAll F (n-1) P gf lb N xs Ob Kp w0) (hOb:∀r,Ob r→r<w.heap.size)
  (hKt:∀{A B C:World},Kp A B→Kp B C→Kp A C) (hKb:∀(W:World) (l:Nat) (o o':Obj),w.heap.size≤l→W.heap[l]? = some o→o.isCells=false→o.isWalk=false→Kp W (W.putObj l o')) (hb0:Below w0.heap.size w0 w) (hps:∀k,(xs k).size=ps.size)
  (I:Nat→World→Prop) (Ip:List PanicEntry→World→Prop) (hI:OwnOf w.heap.size Ob I) (h0:I 0 w) (Ax:Nat→Act→World→Prop) (hAx:∀k a,OwnOf w.heap.size Ob (fun _ W=>Ax k a W))
  (hassign:∀(l:Nat) (k:Nat) (W:World) (K:Act→World→Prop),I k W→k<N→(∀a' W',KeepsOthers W W'→Kp W W'→I k W'→Ax k a' W'→K a' W') →
   assign.wpIn (F.inRound l) (n-1-1) P (Exit.then K (fun _ _ _=>False)) { tmps:=(ps.zip (xs k)).foldl (fun t (p,v)=>t.setIfInBounds p v) a.tmps,defers:=[] } W)
  (hbody:∀(l:Nat) (k:Nat) (a':Act) (W:World),I k W→Ax k a' W→k<N→body.wpIn (F.inRound l) (n-1-1) P (ownPostP Kp I Ip (k+1) W) a' W)
  (hdone:∀(D:Nat) (W:World),w.heap.size≤D→I N W→W.heap[D]? = some (.deferred (some []))→Q .normal { a with defers:={ target:=.collected D,args:=#[] } :: a.defers } W)
  (hpan:∀(D:Nat) (ch:List PanicEntry) (W:World),w.heap.size≤D→Ip ch W→W.heap[D]? = some (.deferred (some []))→Q (.panic ch) { a with defers:={ target:=.collected D,args:=#[] } :: a.defers } W) :
  ∃(l:Nat) (mark:List Deferred) (w₁:World) (d:Deferred) (w₁':World) (f:FuncId) (args:Array Value) (w₂:World),
   (Instr.enterLoop fn a.tmps ps assign body none).run P w=.ok (l,mark) w₁ ∧
   (resolve a.eval (rangeCall g l) 0).run P w₁=.ok d w₁' ∧
   (∀f',Target.leads P w₁' d.target d.args=some f'→F.fn f') ∧
   (invoke d.target d.args).run P w₁'=.ok (.enter f args) w₂ ∧
   (F.depth.isSome=true→1≤n) ∧
   CallsIn F (n-1) P f args w₂ (rangePost F n P l Q { a with defers:=mark++a.defers }):=by
 obtain ⟨rec,hrec⟩:∃rec:LoopState→Option Code→Loop,rec=fun st pe=>{ state:=st,pending:=pe,fn,tmps:=a.tmps,params:=ps,assign,body,defers:=w.heap.size }:=⟨_,rfl⟩
 obtain ⟨W1,hW1⟩:∃W1,(w.alloc (.deferred (some []))).alloc (.loop (rec .ready none))=W1:=⟨_,rfl⟩
 have hL1:W1.heap[w.heap.size+1]? = some (.loop (rec .ready none)):=by
  rw[←hW1];have:=World.alloc_heap_new (w.alloc (.deferred (some []))) (.loop (rec .ready none));rwa [World.size_alloc] at this
 have hK1:W1.heap[w.heap.size]? = some (.deferred (some [])):=by
  rw[←hW1];exact (Below.heap_alloc _ _ _ (by simp)).trans (World.alloc_heap_new w _)
 have hI1:I 0 W1:=by rw[←hW1];exact hI.alloc _ (hI.alloc _ h0)
 have hb1:Below w0.heap.size w0 W1:=by
  rw[←hW1];exact hb0.trans ((((Below.refl _ w).alloc (Nat.le_refl _) _).alloc (by simp) _).mono hb0.size)
 have hobs:∀{W W':World} {row:Option Nat} {r:Nat} {o:Obj},W.grownBy W' row→(∀r,row=some r→Ob r)→w.heap.size≤r→W.heap[r]? = some o→W'.heap[r]? = some o:=fun {W W' row r o} hg hr hle ho=>by
  refine (hg.block r (Array.getElem?_eq_some_iff.1 ho).1 (fun e=>?_)).trans ho
  have:=hOb r (hr r e.symm)
  omega
 refine ⟨w.heap.size+1,[{ target:=.collected w.heap.size,args:=#[] }],W1,{ target:=.fn (.func gf) lb,args:=#[.func (.yield (w.heap.size+1)) #[] #[]] },W1,gf,
  #[.func (.yield (w.heap.size+1)) #[] #[]]++lb,W1,?_,?_,?_,?_,fun _=>h1,?_⟩
 ·rw[←hW1,hrec];exact run_enterLoop_outer _ _ _ _ _
 ·simp only[resolve,hg]
  simp[go_sem]
 ·intro f' hf';simp[Target.leads] at hf';subst hf';exact hFg
 ·simp[invoke,go_sem,eg]
 ·refine (hseq (w.heap.size+1)
   (fun k W=>I k W∧W.heap[w.heap.size+1]? = some (.loop (rec .ready none))∧W.heap[w.heap.size]? = some (.deferred (some [])))
   (fun ch W=>Ip ch W∧W.heap[w.heap.size]? = some (.deferred (some [])))
   W1 hb1
   (fun s A B row hsz hs hg' hr=>⟨hI s A B row hs.1 hg' (fun r e=>.inr (hr r e)),hobs hg' hr (by omega) hs.2.1,hobs hg' hr (by omega) hs.2.2⟩)
   ?_ ⟨hI1,hL1,hK1⟩).mono ?_
  ·rintro k W ⟨hi,hl,hk⟩ hlen
   have hlt:w.heap.size+1<W.heap.size:=(Array.getElem?_eq_some_iff.1 hl).1
   have hy:=run_yield (P:=P) (args:=xs k) hl (by rw[hrec];exact hps k)
   rw[hrec] at hy
   refine ⟨fn,_,assign,body,hy,roundIn_of_wpInP hfn hfns (hassign _ k W _ hi hlen (fun a' Wa hko hkp hia hax=>?_))⟩
   have hla:Wa.heap[w.heap.size+1]? = some (.loop (rec .ready none)):=hko.same _ _ hl rfl
   have hka:Wa.heap[w.heap.size]? = some (.deferred (some [])):=hko.same _ _ hk rfl
   have hlta:w.heap.size+1<Wa.heap.size:=(Array.getElem?_eq_some_iff.1 hla).1
   refine ⟨_,run_beginRound hla (by rw[hrec]),?_⟩
   have hl2:(Wa.putObj (w.heap.size+1) (.loop { rec .ready none with state:=.busy })).heap[w.heap.size+1]? = some (.loop { rec .ready none with state:=.busy }):=World.putObj_heap_same hlta
   have hk2:(Wa.putObj (w.heap.size+1) (.loop { rec .ready none with state:=.busy })).heap[w.heap.size]? = some (.deferred (some [])):=(World.putObj_heap_other (by omega)).trans hka
   have hw2:Kp Wa (Wa.putObj (w.heap.size+1) (.loop { rec .ready none with state:=.busy })):=hKb _ _ _ _ (by omega) hla rfl rfl
   refine wpIn_mono (hbody _ k a' _ (hI.putObj _ hia (by omega) hla rfl) ((hAx k a').putObj (s:=0) _ hax (by omega) hla rfl) hlen) ?_
   rintro e a3 W3 hp
   cases e with
   | normal =>
    obtain ⟨hk3,hkp3,hi3⟩:=hp
    have hl3:=hk3.same _ _ hl2 rfl
    have hr:=run_endRound (P:=P) none hl3
    rw[hrec] at hr hl3 ⊢
    exact ⟨_,_,hr,.inl ⟨rfl,⟨hI.putObj _ hi3 (by omega) hl3 rfl,World.putObj_heap_same (Array.getElem?_eq_some_iff.1 hl3).1,(World.putObj_heap_other (by omega)).trans (hk3.same _ _ hk2 rfl)⟩,hKt (hKt hkp (hKt hw2 hkp3)) (hKb _ _ _ _ (by omega) hl3 rfl rfl)⟩⟩
   | panic ch =>
    obtain ⟨hd,hk3,hp3⟩:=hp
    exact ⟨hd,.inr ⟨ch,rfl,hp3,hk3.same _ _ hk2 rfl⟩⟩
   | ret=>exact hp.elim
   | exit id=>exact hp.elim
   | goto t=>exact hp.elim
   | outgrown=>exact hp.elim
  ·rintro e W2 (⟨⟨v,rfl⟩,hi,hl,hk⟩ | ⟨ch,rfl,hi,hk⟩)
   ·exact ⟨none,_,by have:=run_endLoop (P:=P) hl (by rw[hrec];simp);rw[hrec] at this;exact this,hdone _ _ (Nat.le_refl _) (hI.putObj _ hi (by omega) hl rfl) ((World.putObj_heap_other (by omega)).trans hk)⟩
   ·exact hpan _ ch _ (Nat.le_refl _) hi hk

/-! ### A walk at a frame of one function -/
def wpF (f:FuncId) (P:Program) (c:Code) (Q:Exit→Act→World→Prop) (a:Act) (w:World):Prop :=
 ∀(b:Frame) (k:List Item) (cs:List Frame),b.roundOf=none→b.fn=f →
  ∃e a' w',Q e a' w'∧ArrivesIn (Machine.fenced P Fence.wide) P (lone (b.atR a (.code c :: k)) cs w) b k cs e a' w'
section
variable {f:FuncId} {Q:Exit→Act→World→Prop} {a:Act} {w:World}
theorem wpF_of_wp {c:Code} (h:c.wp P Q a w):wpF f P c Q a w:=fun b k cs hro _=>(wpIn_wide (n:=0)).2 h b k cs hro trivial (room_wide _)
theorem wpF_seq {x y:Code} (h:wpF f P x (Exit.then (wpF f P y Q) Q) a w):wpF f P (Code.seq x y) Q a w:=by
 intro b k cs hro hb
 have h0:(lone (b.atR a (.code (.seq x y) :: k)) cs w).fenced P Fence.wide:=fenced_wide _ _
 obtain ⟨e,a₁,w₁,hq,harr⟩:=h b (.code y :: k) cs hro hb
 cases e with
 | normal =>
  obtain ⟨e₂,a₂,w₂,hq₂,harr₂⟩:=hq b k cs hro hb
  exact ⟨e₂,a₂,w₂,hq₂,.of_steps (.head h0 stepR_seq harr) harr₂⟩
 | exit id=>exact ⟨_,a₁,w₁,hq,.of_steps (.one h0 stepR_seq) (.pass (x:=.code y) rfl (fun _ _=>.inl (by simp)) harr)⟩
 | goto l=>exact ⟨_,a₁,w₁,hq,.of_steps (.one h0 stepR_seq) (.pass (x:=.code y) rfl (fun _ _=>.inl (by simp)) harr)⟩
 | ret=>exact ⟨_,a₁,w₁,hq,.of_steps (.one h0 stepR_seq) (.pass (x:=.code y) rfl (fun _ _=>.inl (by simp)) harr)⟩
 | panic ch=>exact ⟨_,a₁,w₁,hq,.of_steps (.one h0 stepR_seq) (.pass (x:=.code y) rfl (fun _ _=>.inl (by simp)) harr)⟩
 | outgrown=>exact ⟨_,a₁,w₁,hq,.of_steps (.one h0 stepR_seq) (.pass (x:=.code y) rfl (fun _ _=>.inl (by simp)) harr)⟩
theorem wpF_block {id:Nat} {c:Code} (h:wpF f P c (Exit.inBlock id Q) a w):wpF f P (Code.block id c) Q a w:=by
 intro b k cs hro hb
 have h0:(lone (b.atR a (.code (.block id c) :: k)) cs w).fenced P Fence.wide:=fenced_wide _ _
 obtain ⟨e,a₁,w₁,hq,harr⟩:=h b (.inBlock id :: k) cs hro hb
 cases e with
 | normal=>exact ⟨.normal,a₁,w₁,hq,.head h0 stepR_block (StepsIn.trans harr (.one (fenced_wide _ _) stepR_inBlock))⟩
 | exit id' =>
  by_cases hid:id'=id
  ·simp only[Exit.inBlock,hid,if_true] at hq
   exact ⟨.normal,a₁,w₁,hq,.head h0 stepR_block (harr.1 k (by simp[exitTo,hid]))⟩
  ·simp only[Exit.inBlock,hid,if_false] at hq
   have this:(id==id')=false:=by simp;exact fun h=>hid h.symm
   have hx:exitTo id' (.inBlock id :: k)=exitTo id' k:=by simp[exitTo,this]
   exact ⟨.exit id',a₁,w₁,hq,fun k' hk=>.head h0 stepR_block (harr.1 k' (by rw[hx];exact hk)),
    fun hr' hk=>let ⟨k₁,h1,h2⟩:=harr.2 hr' (by rw[hx];exact hk);⟨k₁,h1,.head h0 stepR_block h2⟩⟩
 | goto l =>
  have hx:gotoIn l (.inBlock id :: k)=gotoIn l k:=by simp[gotoIn]
  exact ⟨_,a₁,w₁,hq,fun k' hk=>.head h0 stepR_block (harr.1 k' (by rw[hx];exact hk)),
   fun hr' hk=>let ⟨k₁,h1,h2⟩:=harr.2 hr' (by rw[hx];exact hk);⟨k₁,h1,.head h0 stepR_block h2⟩⟩
 | ret=>exact ⟨_,a₁,w₁,hq,.of_steps (.one h0 stepR_block) harr⟩
 | panic ch=>exact ⟨_,a₁,w₁,hq,.of_steps (.one h0 stepR_block) harr⟩
 | outgrown=>exact ⟨_,a₁,w₁,hq,.of_steps (.one h0 stepR_block) harr⟩
theorem wpF_rangeFunc {g:Operand} {ps:Array Tmp} {assign body:Code} {n:Nat}
  (h:∃(l:Nat) (mark:List Deferred) (w₁:World) (d:Deferred) (w₁':World) (f1:FuncId) (args:Array Value) (w₂:World),
   (Instr.enterLoop f a.tmps ps assign body none).run P w=.ok (l,mark) w₁ ∧
   (resolve a.eval (rangeCall g l) 0).run P w₁=.ok d w₁' ∧
   (∀f',Target.leads P w₁' d.target d.args=some f'→Fence.wide.fn f') ∧
   (invoke d.target d.args).run P w₁'=.ok (.enter f1 args) w₂ ∧
   (Fence.wide.depth.isSome=true→1≤n) ∧
   CallsIn Fence.wide (n-1) P f1 args w₂ (rangePost Fence.wide n P l Q { a with defers:=mark++a.defers })) :
  wpF f P (Code.rangeFunc g ps assign body) Q a w:=by
 intro b k cs hro hb
 obtain ⟨l,mark,w₁,d,w₁',f1,args,w₂,he,hres,hlead,hinv,hn,hF,hcall⟩:=h
 rw[←hro,←hb] at he
 have h0:(lone (b.atR a (.code (.rangeFunc g ps assign body) :: k)) cs w).fenced P Fence.wide:=fenced_wide _ _
 have henter:=stepR_rangeFunc (P:=P) (b:=b) (a:=a) (k:=k) (cs:=cs) (w:=w) he hres hinv
 obtain ⟨e,w₃,fr,hR,hsteps,hfn,hleave⟩:=hcall (b.atR { a with defers:=mark++a.defers } (.inRangeFunc l :: k) :: cs) (room_wide _)
 cases e with
 | outgrown =>
  obtain ⟨a₀,w₀,hq⟩:=hR
  exact ⟨.outgrown,a₀,w₀,hq,.inr (Outgrown.of_steps (.one henter) hsteps)⟩
 | returned v =>
  have hl:(lone fr (b.atR { a with defers:=mark++a.defers } (.inRangeFunc l :: k) :: cs) w₃).fenced P Fence.wide:=fenced_wide _ _
  obtain ⟨jump,w₄,hend,hj⟩:=hR
  have sback:StepsIn (Machine.fenced P Fence.wide) P (lone (b.atR a (.code (.rangeFunc g ps assign body) :: k)) cs w) (lone (b.atR { a with defers:=mark++a.defers } ((jump.map Item.code).toList++k)) cs w₄):=by
   refine .head h0 henter (StepsIn.trans hsteps (.head hl ?_ (.one (fenced_wide _ _) (stepR_endRangeFunc hend))))
   rw[←finish_atR_inRangeFunc l v];exact step_leave_returned hleave
  cases jump with
  | none=>exact ⟨.normal,_,w₄,hj,sback⟩
  | some c =>
   obtain ⟨e',a'',w₅,hq,harr⟩:=hj b k cs hro trivial (room_wide _)
   exact ⟨e',a'',w₅,hq,.of_steps sback harr⟩
 | panicked chain =>
  have hl:(lone fr (b.atR { a with defers:=mark++a.defers } (.inRangeFunc l :: k) :: cs) w₃).fenced P Fence.wide:=fenced_wide _ _
  refine ⟨.panic chain,_,w₃,hR,.inRangeFunc l :: k,.head h0 henter (StepsIn.trans hsteps (.one hl ?_))⟩
  rw[←Frame.raise_atR];exact step_leave_panicked hleave
end
theorem calls_of_wpF {f:FuncId} {fn:Func} {c:Code} {args:Array Value} {w:World} {R:Ending→World→Prop}
  (hf:P.funcs[f]? = some fn) (hb:fn.body=some c)
  (h:wpF f P c (bodyPostM Fence.wide 9 P fn R) { tmps:=args++Array.replicate (fn.ntmps-args.size) undef,defers:=[] } w):Calls P f args w R:=by
 refine (callsIn_wide (n:=9)).1 ⟨trivial,fun cs hr=>?_⟩
 let b:Frame:={ (default:Frame) with fn:=f,kind:=.normal,roundOf:=none }
 have henter:Frame.enter P f args .normal =
   b.atR { tmps:=args++Array.replicate (fn.ntmps-args.size) undef,defers:=[] } [.code c]:=by
  simp[Frame.enter,Frame.atR,hf,hb,b]
 obtain ⟨e,a',w',hq,harr⟩:=h b [] cs rfl rfl
 rw[←henter] at harr
 cases e with
 | normal =>
  obtain ⟨e',w'',fr',hR,hs,hfn,hl⟩:=leaves_stepsInM a'.defers .returning w' { b.atR a' [] with mode:=.returning } cs rfl rfl rfl hf rfl trivial hr hq
  exact ⟨e',w'',fr',hR,ComesIn.of_steps (StepsIn.trans harr (.one (fenced_wide _ _) (stepR_end rfl))) hs,hfn,hl⟩
 | ret =>
  obtain ⟨todo,hs₀⟩:=harr.1 rfl
  obtain ⟨e',w'',fr',hR,hs,hfn,hl⟩:=leaves_stepsInM a'.defers .returning w' { b.atR a' todo with mode:=.returning } cs rfl rfl rfl hf rfl trivial hr hq
  exact ⟨e',w'',fr',hR,ComesIn.of_steps hs₀ hs,hfn,hl⟩
 | panic chain =>
  obtain ⟨todo,hs₀⟩:=harr
  obtain ⟨e',w'',fr',hR,hs,hfn,hl⟩:=leaves_stepsInM a'.defers (.panicking chain) w' { b.atR a' todo with mode:=.panicking chain } cs rfl rfl rfl hf rfl trivial hr hq
  exact ⟨e',w'',fr',hR,ComesIn.of_steps hs₀ hs,hfn,hl⟩
 | exit id=>exact hq.elim
 | goto l=>exact hq.elim
 | outgrown=>exact ⟨.outgrown,w',b,hq,harr.resolve_left (by simp[b]),rfl,trivial⟩
end Go.Proofs.YtkohhdkkbaifoaaGreatDoor

/-
  A chain from its end on: script.fromTheEnd.
-/
namespace Go.Proofs.YtkohhdkkbaifoaaGreatDoor
open Go.RowKit PK Vg Sm
attribute [local go_sem] Oper.semAt_some

section
variable {F:Fence} {n:Nat} {P:Program}
theorem wpListIn_load_arr {ops:Array Oper} {rest:List Oper} {op:Oper} {a:Act} {w:World} {Q:Exit→Act→World→Prop} (hgd:op.guard=none) (ty:TypeId) (x:Operand) (ho:op.op=.load ty x)
  (b o:Nat) (hx:a.eval x=.pointer (some ⟨b,o,none⟩)) (cs:Array Value) (d:TypeDesc) (hc:w.rangeAt b o cs.toList)
  (hu:P.underlying ty=some d) (hd:d.isRow=true) (hi:(P.info? ty).map (·.size)=some cs.size)
  (h:wpListIn F n P ops Q rest (a.put op.dst (.agg cs)) w):wpListIn F n P ops Q (op :: rest) a w:=by
 refine wpListIn_plain hgd fun K hK=>?_
 have hl:=run_loadVar_mid w b o ty cs.toList d hc hu hd (by rw[Array.length_toList];exact hi)
 rw[Array.toArray_toList] at hl
 unfold Oper.wpIn
 refine ⟨by simp[Oper.about,ho],?_⟩
 rw[Oper.semAt_plain F _ _ (by rw[ho];intro c hc';cases hc')]
 unfold execOp
 simp only[ho,hx,Instr.loadAt,Instr.sureAddr,Sem.run_bind,Sem.run_pure,Result.andThen_ok,hl]
 exact hK _ _ h
theorem wpListIn_store_row {ops:Array Oper} {rest:List Oper} {o:Oper} {a:Act} {w:World} {Q:Exit→Act→World→Prop} (hgd:o.guard=none) (ty:TypeId) (x y:Operand) (ho:o.op=.store ty x y)
  (g:Nat) (cells:Array Value) (hx:a.eval x=.pointer (some ⟨g,0,none⟩)) (hy:a.eval y=.agg cells)
  (t:TypeId) (old:Array Value) (hg:w.heap[g]? = some (.cells old t (0,0))) (hi:(P.info? ty).map (·.size)=some cells.size)
  (hold:old.size=cells.size) (h1:cells.all (·.oneCell')=true)
  (h:wpListIn F n P ops Q rest (a.put o.dst undef) (w.setRow g cells)):wpListIn F n P ops Q (o :: rest) a w:=by
 refine wpListIn_plain hgd fun K hK=>?_
 unfold Oper.wpIn
 refine ⟨by simp[Oper.about,ho],?_⟩
 rw[Oper.semAt_plain F _ _ (by rw[ho];intro c hc';cases hc')]
 unfold execOp
 simp only[ho,hx,hy,Instr.storeAt,Instr.sureAddr,Sem.run_bind,Sem.run_pure,Result.andThen_ok,run_storeVar_row w g t ty old cells hg hi hold h1]
 exact hK _ _ h
end
def Sme (bt lv:Nat) (W W':World):Prop:=∀b,b≠bt→b<lv→W'.heap[b]? = W.heap[b]?
theorem Sme.trans {bt lv:Nat} {A B C:World} (h:Sme bt lv A B) (k:Sme bt lv B C):Sme bt lv A C:=fun b h1 h2=>(k b h1 h2).trans (h b h1 h2)
theorem Sme.cell {bt lv:Nat} {A B:World} (h:Sme bt lv A B) {b o:Nat} (h1:b≠bt) (h2:b<lv):B.cell? ⟨b,o,none⟩=A.cell? ⟨b,o,none⟩:=by
 have:=h b h1 h2
 simp only[World.cell?,this]
theorem Sme.range {bt lv:Nat} {A B:World} (h:Sme bt lv A B) {b o:Nat} {l:List Value} (hr:A.rangeAt b o l) (h1:b≠bt) (h2:b<lv):B.rangeAt b o l:=fun j v hv=>(h.cell h1 h2).trans (hr j v hv)
theorem Sme.of {bt lv:Nat} {A B:World} (h:Below lv A B):Sme bt lv A B:=fun b _ h2=>h.block b h2
set_option maxRecDepth 100000 in
set_option maxHeartbeats 2000000 in
theorem fte_all (bt lv b:Nat) (a:Option Addr) (n cap:Nat) (R:Nat→Array Value) (w0:World) (m:Nat) (hn:n≤64) (hs:∀i,i<n→(R i).size=59) (hlv:lv≤w0.heap.size)
  (hr:∀i,i<n→∃b o,a=some ⟨b,o,none⟩∧(b≠bt∧b<lv)∧w0.rangeAt b (o+i*59) (R i).toList) (hbb:b≠bt∧b<lv) (hb:w0.cell? ⟨b,0,none⟩=some (.slice a n cap)) :
  SeqAll Fence.wide m Tryz.prog 90 #[.pointer (some ⟨b,0,none⟩)] n (fun k=>#[.int .i64 ((n-1-k:Nat):Int),.agg (R (n-1-k))]) (fun _=>False) (Sme bt lv) w0:=by
 intro l J Jp W hW hJ hY h0
 have HR:Hid (∀i,i<n→∃b o,a=some ⟨b,o,none⟩∧(b≠bt∧b<lv)∧w0.rangeAt b (o+i*59) (R i).toList):=hr
 have HS:Hid (∀i,i<n→(R i).size=59):=hs
 have HY:Hid (∀k W1,J k W1→k<n→YieldAt Fence.wide (m-1) Tryz.prog l #[.int .i64 ((n-1-k:Nat):Int),.agg (R (n-1-k))] W1 fun e W'=>(e=.returned (.bool true)∧J (k+1) W'∧Sme bt lv W1 W')∨(∃ch,e=.panicked ch∧Jp ch W')):=hY
 have hc0:=(hW.cell (p:=⟨b,0,none⟩) (World.block_lt_of_cell? _ _ hb)).trans hb
 have HB0:Hid (w0.cell? ⟨b,0,none⟩=some (.slice a n cap)):=hb
 have HBB:Hid (b≠bt∧b<lv):=hbb
 have HW0:Hid (Sme bt lv w0 W):=Sme.of (hW.mono hlv)
 clear hr hs hY hb hJ hW hbb hlv
 refine callsIn_of_wp Tryz.func90 rfl trivial ?_ rfl
 simp only[Tryz.ntmps90,List.size_toArray,List.length_cons,List.length_nil,Nat.reduceAdd,Nat.reduceSub,Array.replicate_succ,Array.replicate_zero,List.push_toArray,List.append_toArray,List.nil_append,List.cons_append]
 gi_wp2
 gi_loopw [3] (fun p wr=>∃k:Nat,k≤n∧p=.int .i64 (((n-k:Nat):Int)-1)∧J k wr∧Hid (Sme bt lv w0 wr)) (fun p _=>((intOf p)+1).toNat)
 case atStart=>exact ⟨0,by omega,by rfl,h0,HW0⟩
 case round =>
  obtain ⟨k,hk,rfl,hj,HBE⟩:=hrel
  by_cases hlt:k<n
  ·obtain ⟨j,hjj⟩:∃j:Nat,j=n-1-k:=⟨_,rfl⟩
   have hjn:j<n:=by omega
   have e1:((n-k:Nat):Int)-1=(j:Int):=by omega
   obtain ⟨bw,ow,rfl,hbw,hrg⟩:=HR.out j hjn
   have hrg2:=HBE.out.range hrg hbw.1 hbw.2
   have hc1:=(HBE.out.cell (o:=0) HBB.out.1 HBB.out.2).trans HB0.out
   obtain ⟨fn,tmps,assign,body,hy,hR⟩:=HY.out k wr hj hlt
   have HRI:Hid _:=hR
   have HSJ:Hid ((R j).size=59):=HS.out j hjn
   rw[←hjj] at hy
   generalize R j=CS at *
   have HNX:Hid (n-(k+1)=j):=by rw[Hid];omega
   have HKL:Hid (k+1≤n):=hlt
   rw[e1]
   have hjl:(j:Int)<(n:Int):=by omega
   clear hR hrg hjj hc0 h0 hj e1 hlt hk hbw HW0
   gi_wp2_with (refine wpListIn_load_arr rfl 31 _ rfl bw (ow+j*59) rfl CS _ hrg2 Tryz.underlying31 rfl (by rw[HSJ.out];exact s_info) ?_)
   refine ⟨fun h=>(by cases h),?_⟩
   refine RoundIn.mono HRI.out ?_
   rintro e W3 (⟨rfl,hJ3,hk3⟩ | ⟨ch,rfl,hJp⟩)
   ·have HK3:Hid (Sme bt lv w0 W3):=HBE.out.trans hk3
    clear hk3 hrg2 hy HRI HBE
    gi_wp2
    go_roundw
    case rel=>exact ⟨k+1,HKL.out,by rw[HNX.out],hJ3,HK3⟩
    case measure=>simp[intOf] <;> omega
   ·exact ⟨rfl,.inr ⟨ch,rfl,hJp⟩⟩
  ·obtain rfl:k=n:=by omega
   rw[Nat.sub_self]
   gi_wp2
   go_end0
   exact .inl ⟨⟨_,rfl⟩,hj⟩
end Go.Proofs.YtkohhdkkbaifoaaGreatDoor

/-
  A text in pieces, with commas between two: strings.SplitSeq.
-/
namespace Go.Proofs.YtkohhdkkbaifoaaGreatDoor
open Go.RowKit PK Vg
attribute [local go_sem] Oper.semAt_some

def rst (l:List UInt8):Nat→List UInt8
 | 0=>l
 | k+1=>(rst l k).drop ((upto 44 (rst l k)).length+1)
def pce (l:List UInt8) (k:Nat):List UInt8:=upto 44 (rst l k)
def off (l:List UInt8):Nat→Nat
 | 0=>0
 | k+1=>off l k+(pce l k).length+1
end Go.Proofs.YtkohhdkkbaifoaaGreatDoor

/-
  Contracts of the document's Spelt, Known and Mirror (chapter 8).
-/
namespace Go.Proofs.YtkohhdkkbaifoaaGreatDoor
open Go.RowKit PK Vg

theorem o_decode (s:ByteArray) (pos:Nat) (hp:pos<s.size) (hl:Ls s.data.toList):Utf8.decode s pos=((s.data.toList.getD pos 0).toNat,1):=by
 have hp':pos<s.data.toList.length:=by rw[←Pl.size_len];exact hp
 rw[Pl.decode_eq,List.drop_eq_getElem_cons hp']
 have hm:s.data.toList[pos] ∈ s.data.toList:=List.getElem_mem _
 have:=hl _ hm
 rw[Pl.decL_low _ _ (by omega)]
 simp[List.getD,List.getElem?_eq_getElem hp']
def spl (l:List UInt8) (i:Nat):Int:=if i<l.length then ((Vg.num (l.getD i 0):Nat):Int) else 0
structure SpAt (w W:World) (s:ByteArray) (pos:Nat) (f:Nat→Int):Prop where
 r:RowAt W w.heap.size 27 (ints 26 fun _=>0)
 o:RowAt W (w.heap.size+1) 27 (ints 26 f)
 it:W.heap[w.heap.size+1+1]? = some (.stringIter s pos)
 below:Below w.heap.size w W
set_option maxRecDepth 100000 in
set_option maxHeartbeats 1000000 in
theorem rspelt_any (s:ByteArray) (hl:Ls s.data.toList) (hs:s.size≤26) (w:World):Calls Tryz.prog 158 #[.string s] w fun e w'=>e=.returned (.agg (ints 26 (spl s.data.toList)))∧Below w.heap.size w w':=by
 have hz26:=o_zero v_zero_perm
 have h0:=TuAt.new w
 have HL:=(show Hid (Ls s.data.toList) from hl)
 have hslen:=Pl.size_len s
 go_enter Tryz.func158,Tryz.ntmps158
 go_wp2_with fail
 clear hz26
 go_loopw [4] (fun _ W=>∃pos:Nat,pos≤s.size∧SpAt w W s pos fun c=>if c<pos then ((Vg.num (s.data.toList.getD c 0):Nat):Int) else 0) (fun _ W=>s.size-W.iterPos (w.heap.size+1+1))
 case atStart =>
  refine ⟨0,by omega,h0.r.alloc _,?_,?_,h0.below.alloc h0.below.size _⟩
  ·have e:(ints 26 fun c=>if c<0 then ((Vg.num (s.data.toList.getD c 0):Nat):Int) else 0)=ints 26 fun _=>0:=ints_ext fun c _=>by rw[if_neg (by omega)]
   rw[e]
   exact h0.o.alloc _
  ·have:=World.iter_heap ((w.alloc (.cells (ints 26 fun _=>0) 27)).alloc (.cells (ints 26 fun _=>0) 27)) s 0
   simp only[World.size_alloc] at this
   exact this
 case round =>
  clear h0
  obtain ⟨pos,hps,hg⟩:=hrel
  have hk:=hg.it
  have hmu:Hid (wr.iterPos (w.heap.size+1+1)=pos):=iterPos_of hk
  by_cases hp:pos<s.size
  ·have hnext0:∀ty,(Instr.next (.pointer (some ⟨w.heap.size+1+1,0,none⟩)) true ty).run Tryz.prog wr=_:=fun ty=>Lib.run_next_any_at wr (w.heap.size+1+1) s pos ty hk hp
   rw[o_decode s pos hp HL.out] at hnext0
   have hxl:=HL.out.at (getD_size hp)
   have hnum:=num_lt hxl
   have hbi:Below w.heap.size w (wr.iterAt (w.heap.size+1+1) s (pos+1)):=Lib.below_iterAt hg.below (by omega) s _
   have hk1:=Lib.iterAt_heap wr (w.heap.size+1+1) s pos (pos+1) hk
   have hr1:RowAt (wr.iterAt (w.heap.size+1+1) s (pos+1)) w.heap.size 27 (ints 26 fun _=>0):=(Lib.iterAt_other wr (w.heap.size+1+1) w.heap.size s (pos+1) (by omega)).trans hg.r
   have ho1:RowAt (wr.iterAt (w.heap.size+1+1) s (pos+1)) (w.heap.size+1) 27 (ints 26 fun c=>if c<pos then ((Vg.num (s.data.toList.getD c 0):Nat):Int) else 0):=(Lib.iterAt_other wr (w.heap.size+1+1) (w.heap.size+1) s (pos+1) (by omega)).trans hg.o
   have HNX:Hid (∀i,i<26→upd (fun c=>if c<pos then ((Vg.num (s.data.toList.getD c 0):Nat):Int) else 0) pos ((Vg.num (s.data.toList.getD pos 0):Nat):Int) i=if i<pos+1 then ((Vg.num (s.data.toList.getD i 0):Nat):Int) else 0):=fun i _=>by
    unfold upd
    by_cases e:i=pos
    ·rw[if_pos e,if_pos (by omega),e]
    ·rw[if_neg e]
     show (if i<pos then ((Vg.num (s.data.toList.getD i 0):Nat):Int) else 0)=_
     by_cases e2:i<pos
     ·rw[if_pos e2,if_pos (by omega)]
     ·rw[if_neg e2,if_neg (by omega)]
   have hp26:pos<26:=by omega
   have hck:=ho1.cell (ints_get (fun c=>if c<pos then ((Vg.num (s.data.toList.getD c 0):Nat):Int) else 0) hp26)
   have hfk:=ho1.frozen pos
   generalize wr.iterAt (w.heap.size+1+1) s (pos+1)=Y at *
   clear hg hk
   have hx3:(((s.data.toList.getD pos 0).toNat:Nat):Int)-65=((Vg.num (s.data.toList.getD pos 0):Nat):Int):=by unfold Vg.num;omega
   have HX3:=(show Hid _ from hx3)
   have hx1:(65:Int)≤((s.data.toList.getD pos 0).toNat:Int):=by omega
   have hx2:((s.data.toList.getD pos 0).toNat:Int)≤90:=by omega
   have hs2:=ho1.set pos (.int .i64 ((Vg.num (s.data.toList.getD pos 0):Nat):Int))
   rw[ints_set,ints_ext HNX.out] at hs2
   have HG:Hid (SpAt w (Y.setCell ⟨w.heap.size+1,pos,none⟩ (.int .i64 ((Vg.num (s.data.toList.getD pos 0):Nat):Int))) s (pos+1) fun c=>if c<pos+1 then ((Vg.num (s.data.toList.getD c 0):Nat):Int) else 0):=⟨hr1.setOther _ _ (by simp),hs2,(heap_setCell_other Y ⟨w.heap.size+1,pos,none⟩ (w.heap.size+1+1) _ (by simp)).trans hk1,hbi.setCell (p:=⟨w.heap.size+1,pos,none⟩) (by simp) _⟩
   clear hs2 hr1 ho1 hbi hk1
   generalize (s.data.toList.getD pos 0).toNat=x at *
   generalize Vg.num (s.data.toList.getD pos 0)=nx at *
   have hnext:=hnext0
   clear hnext0
   go_wp2
   go_roundw
   case rel=>exact ⟨pos+1,by omega,HG.out⟩
   case measure=>rw[hmu.out,iterPos_of HG.out.it];omega
  ·have hnext:∀ty,(Instr.next (.pointer (some ⟨w.heap.size+1+1,0,none⟩)) true ty).run Tryz.prog wr=_:=fun ty=>Lib.run_next_end_at wr (w.heap.size+1+1) s pos ty hk hp
   obtain rfl:pos=s.size:=by omega
   have hr:=hg.r
   have ho:RowAt wr (w.heap.size+1) 27 (ints 26 (spl s.data.toList)):=by
    have:=hg.o
    rw[hslen] at this
    exact this
   have hbe:=hg.below
   clear hg hk
   go_wp2_with (first | refine wpList_load_row rfl 27 _ rfl (w.heap.size+1) rfl 27 (ints 26 (spl s.data.toList)) (0,0) _ ho Tryz.underlying27 rfl (by rw[ints_size];exact info_perm) ?_ | refine wpList_store_row rfl 27 _ _ rfl w.heap.size (ints 26 (spl s.data.toList)) rfl rfl 27 _ hr (by rw[ints_size];exact info_perm) (by simp only[ints_size]) (ints_one _ _) ?_)
   exact bodyPost_ret (v:=.agg (ints 26 (spl s.data.toList))) (o_results1 Tryz.results158 _ _ _ _ _ _ _ rfl (hr.row _) Tryz.underlying27 rfl (by rw[ints_size];exact info_perm)) rfl ⟨rfl,Below.setRow hbe _ (Nat.le_refl _) _⟩
def miB:List UInt8:=[89,82,85,72,81,83,76,68,80,88,78,71,79,75,77,73,69,66,70,90,67,87,86,74,65,84]
def miC:List UInt8:=[70,86,80,74,73,65,79,89,69,68,82,90,88,87,71,67,84,75,85,81,83,66,78,77,72,76]
def miP (name:List UInt8):Nat→Int:=if name=[66] then spl miB else if name=[67] then spl miC else fun _=>0
def miE (name:List UInt8):Int:=if name=[66]∨name=[67] then 0 else 7
theorem ls_dec {l:List UInt8} (h:(l.all fun c=>decide (65≤c.toNat∧c.toNat≤90))=true):Ls l:=fun c hc=>by
 have:=List.all_eq_true.1 h c hc
 simpa using this
theorem name_eq (A:List UInt8) (t:ByteArray):(t.toList==A)=decide (t.data.toList=A):=by
 rw[ba_toList]
 by_cases h:t.data.toList=A
 ·rw[decide_eq_true h,h];simp
 ·rw[decide_eq_false h];exact beq_false_of_ne h
set_option maxRecDepth 100000 in
set_option maxHeartbeats 1000000 in
theorem rmirror_any (name:ByteArray) (w:World):Calls Tryz.prog 103 #[.string name] w fun e w'=>e=.returned (.tuple #[.agg (ints 26 (miP name.data.toList)),.int .i64 (miE name.data.toList)])∧Below w.heap.size w w':=by
 have hz26:=o_zero v_zero_perm
 have hr0:=RowAt.new w 27 (ints 26 fun _=>0)
 have hb0:Below w.heap.size w (w.alloc (.cells (ints 26 fun _=>0) 27)):=(Below.refl _ w).alloc (Nat.le_refl _) _
 have hB:=(show Hid (∀W,Calls Tryz.prog 158 #[.string ⟨#[89,82,85,72,81,83,76,68,80,88,78,71,79,75,77,73,69,66,70,90,67,87,86,74,65,84]⟩] W fun e w'=>e=.returned (.agg (ints 26 (spl miB)))∧Below W.heap.size W w') from fun W=>rspelt_any ⟨miB.toArray⟩ (ls_dec (by decide)) (by decide) W)
 have hC:=(show Hid (∀W,Calls Tryz.prog 158 #[.string ⟨#[70,86,80,74,73,65,79,89,69,68,82,90,88,87,71,67,84,75,85,81,83,66,78,77,72,76]⟩] W fun e w'=>e=.returned (.agg (ints 26 (spl miC)))∧Below W.heap.size W w') from fun W=>rspelt_any ⟨miC.toArray⟩ (ls_dec (by decide)) (by decide) W)
 have q1:=name_eq [66] name
 have q2:=name_eq [67] name
 by_cases h1:name.data.toList=[66]
 ·have HP:Hid (miP name.data.toList=spl miB):=by unfold miP;rw[Hid,if_pos h1]
  have HE:Hid (miE name.data.toList=0):=by unfold miE;rw[Hid,if_pos (.inl h1)]
  rw[decide_eq_true h1] at q1
  clear h1 q2 hC
  go_enter Tryz.func103,Tryz.ntmps103
  go_wp2_with fail
  refine (hB.out _).mono ?_
  rintro e W1 ⟨rfl,hb⟩
  have hr1:=hr0.below hb hr0.lt
  have hb1:=hb0.trans (hb.mono hb0.size)
  clear hb hB hr0 hb0
  go_wp2_with (first | refine wpList_store_row rfl 27 _ _ rfl w.heap.size (ints 26 (spl miB)) rfl rfl 27 _ hr1 (by rw[ints_size];exact info_perm) (by simp only[ints_size]) (ints_one _ _) ?_)
  exact bodyPost_ret (v:=.tuple #[.agg (ints 26 (spl miB)),.int .i64 0]) (results_cell_tmp2 rfl _ _ w.heap.size 27 _ (0,0) _ _ rfl rfl (hr1.row _) Tryz.underlying27 rfl (by rw[ints_size];exact info_perm)) rfl ⟨by rw[HP.out,HE.out],Below.setRow hb1 _ (Nat.le_refl _) _⟩
 ·rw[decide_eq_false h1] at q1
  by_cases h2:name.data.toList=[67]
  ·have HP:Hid (miP name.data.toList=spl miC):=by unfold miP;rw[Hid,if_neg h1,if_pos h2]
   have HE:Hid (miE name.data.toList=0):=by unfold miE;rw[Hid,if_pos (.inr h2)]
   rw[decide_eq_true h2] at q2
   clear h1 h2 hB
   go_enter Tryz.func103,Tryz.ntmps103
   go_wp2_with fail
   refine (hC.out _).mono ?_
   rintro e W1 ⟨rfl,hb⟩
   have hr1:=hr0.below hb hr0.lt
   have hb1:=hb0.trans (hb.mono hb0.size)
   clear hb hC hr0 hb0
   go_wp2_with (first | refine wpList_store_row rfl 27 _ _ rfl w.heap.size (ints 26 (spl miC)) rfl rfl 27 _ hr1 (by rw[ints_size];exact info_perm) (by simp only[ints_size]) (ints_one _ _) ?_)
   exact bodyPost_ret (v:=.tuple #[.agg (ints 26 (spl miC)),.int .i64 0]) (results_cell_tmp2 rfl _ _ w.heap.size 27 _ (0,0) _ _ rfl rfl (hr1.row _) Tryz.underlying27 rfl (by rw[ints_size];exact info_perm)) rfl ⟨by rw[HP.out,HE.out],Below.setRow hb1 _ (Nat.le_refl _) _⟩
  ·have HP:Hid (miP name.data.toList=fun _=>0):=by unfold miP;rw[Hid,if_neg h1,if_neg h2]
   have HE:Hid (miE name.data.toList=7):=by unfold miE;rw[Hid,if_neg (fun h=>h.elim h1 h2)]
   rw[decide_eq_false h2] at q2
   clear h1 h2 hB hC
   have hr1:=hr0
   go_enter Tryz.func103,Tryz.ntmps103
   go_wp2_with (first | refine wpList_build0 rfl 27 rfl _ built_perm ?_ | refine wpList_store_row rfl 27 _ _ rfl w.heap.size (ints 26 fun _=>0) rfl rfl 27 _ hr1 (by rw[ints_size];exact info_perm) (by simp only[ints_size]) (ints_one _ _) ?_)
   exact bodyPost_ret (v:=.tuple #[.agg (ints 26 fun _=>0),.int .i64 7]) (results_cell_tmp2 rfl _ _ w.heap.size 27 _ (0,0) _ _ rfl rfl (hr1.row _) Tryz.underlying27 rfl (by rw[ints_size];exact info_perm)) rfl ⟨by rw[HP.out,HE.out],Below.setRow hb0 _ (Nat.le_refl _) _⟩
end Go.Proofs.YtkohhdkkbaifoaaGreatDoor

/-
  The machine that alive asks: I, II, III, mirror B.
-/
namespace Go.Proofs.YtkohhdkkbaifoaaGreatDoor
open Go.RowKit PK Vg

def kw1:List UInt8:=[69,75,77,70,76,71,68,81,86,90,78,84,79,87,89,72,88,85,83,80,65,73,66,82,67,74]
def kw2:List UInt8:=[65,74,68,75,83,73,82,85,88,66,76,72,87,84,77,67,81,71,90,78,80,89,70,86,79,69]
def kw3:List UInt8:=[66,68,70,72,74,76,67,80,82,84,88,86,90,78,89,69,73,87,71,65,75,77,85,83,81,79]
def kw4:List UInt8:=[69,83,79,86,80,90,74,65,89,81,85,73,82,72,88,76,78,70,84,71,75,68,67,77,87,66]
def kw5:List UInt8:=[86,90,66,82,71,73,84,89,85,80,83,68,78,72,76,88,65,87,77,74,81,79,70,69,67,75]
def knT:List (List UInt8 × List UInt8 × Nat):=[([73],kw1,16),([73,73],kw2,4),([73,73,73],kw3,21),([73,86],kw4,9),([86],kw5,25)]
def knI (name:List UInt8):Option (List UInt8 × List UInt8 × Nat):=knT.find? fun x=>x.1==name
def knW (name:List UInt8):Nat→Int:=match knI name with
 | some x=>spl x.2.1
 | none=>fun _=>0
def knN (name:List UInt8):List Nat:=match knI name with
 | some x=>[x.2.2]
 | none=>[]
def knE (name:List UInt8):Int:=match knI name with
 | some _=>0
 | none=>7
end Go.Proofs.YtkohhdkkbaifoaaGreatDoor
