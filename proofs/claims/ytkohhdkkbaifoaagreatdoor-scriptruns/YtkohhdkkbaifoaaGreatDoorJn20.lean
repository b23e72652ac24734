/-
  Several texts, joined: ScQ, ScR, LdA, RfA.
-/
import Derived.Test.YtkohhdkkbaifoaaGreatDoorJn2
import Derived.Test.YtkohhdkkbaifoaaGreatDoorScI
import Derived.Shelf.Strconv.AtoiAll
import Derived.Test.YtkohhdkkbaifoaaGreatDoorRows
import Derived.Stop.LaidErr
import Derived.LaidLaws
import Derived.Lay
import Derived.LaidMore
import Derived.MakeChecks
import Derived.LaidHandle
import Derived.RangeFuncNested
/-
  Numbers in words: isNumber, strconv.Atoi, (word).number.
-/
namespace Go.Proofs.YtkohhdkkbaifoaaGreatDoor
open Go.Shelf Go.RowKit PK Vg

shelf_lay LaysC.n172 Nm 172 at Tryz as Tryz.laysAtoi
end Go.Proofs.YtkohhdkkbaifoaaGreatDoor

/-
  Names of steps: script.named.
-/
namespace Go.Proofs.YtkohhdkkbaifoaaGreatDoor
open Go.RowKit PK Vg

theorem run_index_strs {P:Program} (t e:TypeId) (n:Nat) (hu:P.underlying t=some (.array n e)) (he:P.underlying e=some .string) (hs:(P.info? e).map (·.size)=some 1) (f:Nat→ByteArray) (k:Nat) (hk:k<n) (w:World) :
  (Instr.index t (.agg (tab n fun i=>.string (f i))) (.int .i64 (k:Int))).run P w=.ok (.string (f k)) w:=by
 cases hq:P.info? e with
 | none=>simp[hq] at hs
 | some i =>
  have h1:i.size=1:=by simpa [hq] using hs
  have h2:((k:Int)<(n:Int)):=by omega
  simp[Instr.index,asIntOf,Sem.run_bind,run_underlying hu,part,isAgg,run_underlying he,sizeOf,typeInfo,hq,h1,hk,tab_get (fun i=>Value.string (f i)) hk]
theorem str_info:(Tryz.prog.info? 9).map (·.size)=some 1:=by kernel_rfl
def nmN:Nat→ByteArray
 | 1=>⟨#[109,111,118,101]⟩
 | 3=>⟨#[114,97,105,108]⟩
 | 4=>⟨#[99,111,108,117,109,110,115]⟩
 | 5=>⟨#[104,105,108,108]⟩
 | 6=>⟨#[114,111,116,111,114]⟩
 | _=>⟨#[]⟩
def tbN:Nat→ByteArray
 | 1=>⟨#[118,105,103,101,110,101,114,101]⟩
 | 2=>⟨#[98,101,97,117,102,111,114,116]⟩
 | 3=>⟨#[118,97,114,105,97,110,116]⟩
 | 4=>⟨#[97,117,116,111,107,101,121]⟩
 | _=>⟨#[]⟩
def nmA:Array Value:=tab 7 fun i=>.string (nmN i)
def tbA:Array Value:=tab 5 fun i=>.string (tbN i)
structure NmAt (w:World):Prop where
 kn:w.rangeAt 1 0 nmA.toList
 tb:w.rangeAt 0 0 tbA.toList
theorem NmAt.below {w w':World} (h:NmAt w) (hb:Below w.heap.size w w'):NmAt w':=⟨rangeAt_below h.kn hb,rangeAt_below h.tb hb⟩
theorem wpList_bA {P:Program} {ops:Array Oper} {rest:List Oper} {op:Oper} {a:Act} {w:World} {Q:Exit→Act→World→Prop} (hgd:op.guard=none) (t:TypeId) (xs:List (Nat × Operand)) (ho:op.op=.build t xs.toArray) (vs:List (Nat × Value)) (hv:xs.map (fun x=>(x.1,a.eval x.2))=vs)
  (cells:Array Value) (hb:P.built t vs=some cells) (h:wpList P ops Q rest (a.put op.dst (.agg cells)) w):wpList P ops Q (op :: rest) a w:=by
 refine wpList_build hgd t xs.toArray ho ?_ ?_
 ·simp only[List.map_toArray]
  rw[show (List.map (fun x:Nat × Operand=>(x.1,a.eval x.2)) xs)=vs from hv]
  simp[hb]
 ·simp only[List.map_toArray]
  rw[show (List.map (fun x:Nat × Operand=>(x.1,a.eval x.2)) xs)=vs from hv]
  simp only[hb,Option.getD_some]
  exact h
end Go.Proofs.YtkohhdkkbaifoaaGreatDoor

/-
  What the listed package-level variables give: the tables of names, and strconv's ErrRange.
-/
namespace Go.Proofs.YtkohhdkkbaifoaaGreatDoor
open Go.RowKit PK

theorem laid_range {n:String} {bs:List (List UInt8)} {r:List (String × DataW Unit)} {W:World} {g k:Nat} {t:TypeId} (h:laidMet Tryz.prog ((n,.agg (bs.map fun b=>.lit (.string b))) :: r) W) (hg0:Tryz.prog.globalNamed n=some g) (ht0:(Tryz.prog.globals[g]?).map (·.type)=some t) (hu:Tryz.prog.underlying t=some (.array k 9)) (hk:bs.length=k):W.rangeAt g 0 (bs.map fun b=>Value.string ⟨b.toArray⟩):=by
 obtain ⟨ps,⟨g,t,cs,fuel,p,q,hg,ht,hv,hd,_,_⟩,_,_⟩:=h
 obtain rfl:=Option.some.inj (hg0.symm.trans hg)
 obtain rfl:=Option.some.inj (ht0.symm.trans ht)
 obtain ⟨xs,m,_,ex,_,hl,hel⟩:=DataW.trod_array hu hd
 have c9:Tryz.prog.cellsOf 9=1:=by kernel_rfl
 intro i v hvi
 have hi:i<k:=by
  have:=(List.getElem?_eq_some_iff.1 hvi).1
  rw[List.length_map] at this
  omega
 have hE:=hel i hi
 rw[c9,Nat.mul_one,List.getElem?_eq_getElem (by omega)] at hE
 obtain ⟨z,e1,e2,_⟩:=DataW.trod_string Tryz.underlying9 hE
 have e3:(xs.map (·.1))=bs.map fun b=>.lit (.string b):=(DataW.agg.inj (Prod.mk.inj ex).1).symm
 have e4:(xs.map (·.1))[i]? = (bs.map fun b=>(DataW.lit (.string b):DataW Unit))[i]?:=by rw[e3]
 rw[List.getElem?_map,List.getElem?_map,List.getElem?_eq_getElem (by omega:i<xs.length),List.getElem?_eq_getElem (by omega:i<bs.length),e2] at e4
 rw[List.getElem?_map,List.getElem?_eq_getElem (by omega:i<bs.length)] at hvi
 simp only[Option.map_some,Option.some.injEq,DataW.lit.injEq,Lit.string.injEq] at e4 hvi
 rw[Nat.zero_add,World.var?_cell hg hv i,←hvi,←e4]
 have:cs.toList[i]? = some (.string z):=by
  have h0:((cs.toList.drop i).take 1)[0]? = some (.string z):=by rw[e1];rfl
  simpa using h0
 simpa using this
theorem g_kinds : Tryz.prog.globalNamed "blackroom/script.kinds" = some 1 := by kernel_rfl
theorem g_tabl : Tryz.prog.globalNamed "blackroom/script.tableaux" = some 0 := by kernel_rfl
theorem gt_kinds:(Tryz.prog.globals[1]?).map (·.type)=some 171:=by kernel_rfl
theorem gt_tabl:(Tryz.prog.globals[0]?).map (·.type)=some 170:=by kernel_rfl
theorem laid_kinds {r : List (String × DataW Unit)} {W : World} (h : laidMet Tryz.prog (("blackroom/script.kinds", Rows.laid_blackroom_script_kinds) :: r) W) : W.rangeAt 1 0 nmA.toList := by
 have:=laid_range (bs:=[[],[109,111,118,101],[],[114,97,105,108],[99,111,108,117,109,110,115],[104,105,108,108],[114,111,116,111,114]]) h g_kinds gt_kinds Tryz.underlying171 rfl
 rw[show nmA.toList=List.map (fun b:List UInt8=>Value.string ⟨b.toArray⟩) [[],[109,111,118,101],[],[114,97,105,108],[99,111,108,117,109,110,115],[104,105,108,108],[114,111,116,111,114]] by kernel_rfl]
 exact this
theorem laid_tabl {r : List (String × DataW Unit)} {W : World} (h : laidMet Tryz.prog (("blackroom/script.tableaux", Rows.laid_blackroom_script_tableaux) :: r) W) : W.rangeAt 0 0 tbA.toList := by
 have:=laid_range (bs:=[[],[118,105,103,101,110,101,114,101],[98,101,97,117,102,111,114,116],[118,97,114,105,97,110,116],[97,117,116,111,107,101,121]]) h g_tabl gt_tabl Tryz.underlying170 rfl
 rw[show tbA.toList=List.map (fun b:List UInt8=>Value.string ⟨b.toArray⟩) [[],[118,105,103,101,110,101,114,101],[98,101,97,117,102,111,114,116],[118,97,114,105,97,110,116],[97,117,116,111,107,101,121]] by kernel_rfl]
 exact this
end Go.Proofs.YtkohhdkkbaifoaaGreatDoor

/-
  A range over a function whose body may throw: the law of the loop, with a panic within a round taken in. No program is named here.
-/
namespace Go.Proofs.YtkohhdkkbaifoaaGreatDoor
open Go.RowKit

variable {F:Fence} {n:Nat} {P:Program}

def roundPostP (P:Program) (l:Nat) (R:Ending→World→Prop):Exit→Act→World→Prop
 | .normal,_,w=>∃v w',(Instr.endRound l none).run P w=.ok v w'∧R (.returned v) w'
 | .panic ch,a,w=>a.defers=[]∧R (.panicked ch) w
 | _,_,_=>False

theorem roundIn_of_wpInP {l:Nat} {f:FuncId} {tmps:Array Value} {assign body:Code} {w:World} {R:Ending→World→Prop} (hF:F.fn f) (hfn:∃fn,P.funcs[f]? = some fn)
  (h:assign.wpIn (F.inRound l) n P (Exit.then (fun a₁ w₁=>∃w₂,(Instr.beginRound l).run P w₁=.ok () w₂∧body.wpIn (F.inRound l) n P (roundPostP P l R) a₁ w₂) (fun _ _ _=>False))
   { tmps:=tmps,defers:=[] } w) :
  RoundIn F n P l f tmps assign body w R:=by
 refine ⟨hF,fun c cs hr=>?_⟩
 let b:Frame:={ (default:Frame) with fn:=f,kind:=.normal,roundOf:=some l }
 have hb0:Frame.round l f tmps assign body .normal=b.atR { tmps:=tmps,defers:=[] } [.code assign,.beginRound,.code body]:=by
  simp[Frame.round,Frame.atR,b]
 have hr':(F.inRound l).room ((c :: cs).length+1+n):=hr
 have hF':(F.inRound l).fn b.fn:=hF
 obtain ⟨e,a₁,w₁,hq,harr⟩:=h b [.beginRound,.code body] (c :: cs) rfl hF' hr'
 rw[←hb0] at harr
 cases e with
 | normal =>
  obtain ⟨w₂,hbr,hbody⟩:=hq
  have s1:StepsIn (Machine.fenced P (F.inRound l)) P (lone (b.atR a₁ [.beginRound,.code body]) (c :: cs) w₁) (lone (b.atR a₁ [.code body]) (c :: cs) w₂) :=
   .one (fenced_calm (fr:=b.atR a₁ [.beginRound,.code body]) hF' hr' rfl) (stepR_beginRound rfl hbr)
  obtain ⟨e₂,a₂,w₃,hq₂,harr₂⟩:=hbody b [] (c :: cs) rfl hF' hr'
  cases e₂ with
  | normal =>
   obtain ⟨v,w₄,hend,hR⟩:=hq₂
   exact ⟨.returned v,w₄,hR,(StepsIn.trans harr s1).trans (StepsIn.trans harr₂ (.one (fenced_calm (fr:=b.atR a₂ []) hF' hr' rfl) (stepR_round_end rfl rfl hend)))⟩
  | panic chain =>
   obtain ⟨hd,hR⟩:=hq₂
   obtain ⟨todo,hs⟩:=harr₂
   have hl:({ b.atR a₂ todo with mode:=.panicking chain }:Frame).leaving P w₃ (.panicked chain):=⟨rfl,hd,hfn⟩
   have hi:(lone { b.atR a₂ todo with mode:=.panicking chain } (c :: cs) w₃).fenced P (F.inRound l):=fenced_leaving hF' hr' hl
   exact ⟨.panicked chain,w₃,hR,(StepsIn.trans harr s1).trans (StepsIn.trans hs (.one hi (step_leave_panicked hl)))⟩
  | ret=>exact hq₂.elim
  | exit id=>exact hq₂.elim
  | goto t=>exact hq₂.elim
  | outgrown=>exact hq₂.elim
 | exit id=>exact hq.elim
 | goto t=>exact hq.elim
 | ret=>exact hq.elim
 | panic chain=>exact hq.elim
 | outgrown=>exact hq.elim

def AbidesOf (B:Nat) (Ob:Nat→Prop) (J:Nat→World→Prop):Prop :=
 ∀s W W' row,B≤W.heap.size→J s W→W.grownBy W' row→(∀r,row=some r→Ob r)→J s W'
def SeqAll (F:Fence) (n:Nat) (P:Program) (g:Nat) (lb:Array Value) (N:Nat) (xs:Nat→Array Value) (Ob:Nat→Prop) (Kp:World→World→Prop) (w:World):Prop :=
 ∀(l:Nat) (J:Nat→World→Prop) (Jp:List PanicEntry→World→Prop) (W:World),Below w.heap.size w W→AbidesOf W.heap.size Ob J →
  (∀k W1,J k W1→k<N→YieldAt F (n-1) P l (xs k) W1 fun e W' =>
   (e=.returned (.bool true)∧J (k+1) W'∧Kp W1 W')∨(∃ch,e=.panicked ch∧Jp ch W')) →
  J 0 W →
  CallsIn F n P g (#[.func (.yield l) #[] #[]]++lb) W fun e W'=>((∃v,e=.returned v)∧J N W')∨(∃ch,e=.panicked ch∧Jp ch W')

def ownPostP (Kp:World→World→Prop) (I:Nat→World→Prop) (Ip:List PanicEntry→World→Prop) (k:Nat) (W:World):Exit→Act→World→Prop
 | .normal,_,W'=>KeepsOthers W W'∧Kp W W'∧I k W'
 | .panic ch,a,W'=>a.defers=[]∧KeepsOthers W W'∧Ip ch W'
 | _,_,_=>False

def OwnOf (B:Nat) (Ob:Nat→Prop) (I:Nat→World→Prop):Prop :=
 ∀s W W' row,I s W→W.grownBy W' row→(∀r,row=some r→(B≤r∧∃o:Obj,W.heap[r]? = some o∧o.isCells=false)∨Ob r)→I s W'
theorem OwnOf.putObj {B:Nat} {Ob:Nat→Prop} {I:Nat→World→Prop} (h:OwnOf B Ob I) {s:Nat} {W:World} {l:Nat} {o:Obj} (o':Obj) (hs:I s W) (hB:B≤l) (hl:W.heap[l]? = some o) (ho:o.isCells=false):I s (W.putObj l o') :=
 h s W _ (some l) hs (grownBy_putObj' W l o') (fun r e=>by cases e;exact .inl ⟨hB,o,hl,ho⟩)
theorem OwnOf.alloc {B:Nat} {Ob:Nat→Prop} {I:Nat→World→Prop} (h:OwnOf B Ob I) {s:Nat} {W:World} (o:Obj) (hs:I s W):I s (W.alloc o) :=
 h s W _ none hs (World.grownBy_alloc W o none) (fun r e=>by cases e)
theorem rangeFunc_all {g:Operand} {ps:Array Tmp} {assign body:Code} {Q:Exit→Act→World→Prop} {a:Act} {w:World} (fn:FuncId) (hfn:F.fn fn) (hfns:∃f,P.funcs[fn]? = some f)
  (h1:1≤n) {gf:Nat} {lb:Array Value} (hg:a.eval g=.func (.func gf) #[] lb) (hFg:F.fn gf) (eg:∀args w,(callFunc gf args).run P w=.ok (.enter gf args) w)
  {N:Nat} {xs:Nat→Array Value} {Ob:Nat→Prop} {Kp:World→World→Prop} {w0:World} (hseq:SeqAll F (n-1) P gf lb N xs Ob Kp w0) (hOb:∀r,Ob r→r<w.heap.size)
  (hKt:∀{A B C:World},Kp A B→Kp B C→Kp A C) (hKb:∀(W:World) (l:Nat) (o o':Obj),w.heap.size≤l→W.heap[l]? = some o→o.isCells=false→o.isWalk=false→Kp W (W.putObj l o')) (hb0:Below w0.heap.size w0 w) (hps:∀k,(xs k).size=ps.size)
  (I:Nat→World→Prop) (Ip:List PanicEntry→World→Prop) (hI:OwnOf w.heap.size Ob I) (h0:I 0 w) (Ax:Nat→Act→World→Prop) (hAx:∀k a,OwnOf w.heap.size Ob (fun _ W=>Ax k a W))
  (hassign:∀(l:Nat) (k:Nat) (W:World) (K:Act→World→Prop),I k W→k<N→(∀a' W',KeepsOthers W W'→Kp W W'→I k W'→Ax k a' W'→K a' W') →
   assign.wpIn (F.inRound l) (n-1-1) P (Exit.then K (fun _ _ _=>False)) { tmps:=(ps.zip (xs k)).foldl (fun t (p,v)=>t.setIfInBounds p v) a.tmps,defers:=[] } W)
  (hbody:∀(l:Nat) (k:Nat) (a':Act) (W:World),I k W→Ax k a' W→k<N→body.wpIn (F.inRound l) (n-1-1) P (ownPostP Kp I Ip (k+1) W) a' W)
  (hdone:∀(D:Nat) (W:World),w.heap.size≤D→I N W→W.heap[D]? = some (.deferred (some []))→Q .normal { a with defers:={ target:=.collected D,args:=#[] } :: a.defers } W)
  (hpan:∀(D:Nat) (ch:List PanicEntry) (W:World),w.heap.size≤D→Ip ch W→W.heap[D]? = some (.deferred (some []))→Q (.panic ch) { a with defers:={ target:=.collected D,args:=#[] } :: a.defers } W) :
  ∃(l:Nat) (mark:List Deferred) (w₁:World) (d:Deferred) (w₁':World) (f:FuncId) (args:Array Value) (w₂:World),
   (Instr.enterLoop fn a.tmps ps assign body none).run P w=.ok (l,mark) w₁ ∧
   (resolve a.eval (rangeCall g l) 0).run P w₁=.ok d w₁' ∧
   (∀f',Target.leads P w₁' d.target d.args=some f'→F.fn f') ∧
   (invoke d.target d.args).run P w₁'=.ok (.enter f args) w₂ ∧
   (F.depth.isSome=true→1≤n) ∧
   CallsIn F (n-1) P f args w₂ (rangePost F n P l Q { a with defers:=mark++a.defers }):=by
 obtain ⟨rec,hrec⟩:∃rec:LoopState→Option Code→Loop,rec=fun st pe=>{ state:=st,pending:=pe,fn,tmps:=a.tmps,params:=ps,assign,body,defers:=w.heap.size }:=⟨_,rfl⟩
 obtain ⟨W1,hW1⟩:∃W1,(w.alloc (.deferred (some []))).alloc (.loop (rec .ready none))=W1:=⟨_,rfl⟩
 have hL1:W1.heap[w.heap.size+1]? = some (.loop (rec .ready none)):=by
  rw[←hW1];have:=World.alloc_heap_new (w.alloc (.deferred (some []))) (.loop (rec .ready none));rwa [World.size_alloc] at this
 have hK1:W1.heap[w.heap.size]? = some (.deferred (some [])):=by
  rw[←hW1];exact (Below.heap_alloc _ _ _ (by simp)).trans (World.alloc_heap_new w _)
 have hI1:I 0 W1:=by rw[←hW1];exact hI.alloc _ (hI.alloc _ h0)
 have hb1:Below w0.heap.size w0 W1:=by
  rw[←hW1];exact hb0.trans ((((Below.refl _ w).alloc (Nat.le_refl _) _).alloc (by simp) _).mono hb0.size)
 have hobs:∀{W W':World} {row:Option Nat} {r:Nat} {o:Obj},W.grownBy W' row→(∀r,row=some r→Ob r)→w.heap.size≤r→W.heap[r]? = some o→W'.heap[r]? = some o:=fun {W W' row r o} hg hr hle ho=>by
  refine (hg.block r (Array.getElem?_eq_some_iff.1 ho).1 (fun e=>?_)).trans ho
  have:=hOb r (hr r e.symm)
  omega
 refine ⟨w.heap.size+1,[{ target:=.collected w.heap.size,args:=#[] }],W1,{ target:=.fn (.func gf) lb,args:=#[.func (.yield (w.heap.size+1)) #[] #[]] },W1,gf,
  #[.func (.yield (w.heap.size+1)) #[] #[]]++lb,W1,?_,?_,?_,?_,fun _=>h1,?_⟩
 ·rw[←hW1,hrec];exact run_enterLoop_outer _ _ _ _ _
 ·simp only[resolve,hg]
  simp[go_sem]
 ·intro f' hf';simp[Target.leads] at hf';subst hf';exact hFg
 ·simp[invoke,go_sem,eg]
 ·refine (hseq (w.heap.size+1)
   (fun k W=>I k W∧W.heap[w.heap.size+1]? = some (.loop (rec .ready none))∧W.heap[w.heap.size]? = some (.deferred (some [])))
   (fun ch W=>Ip ch W∧W.heap[w.heap.size]? = some (.deferred (some [])))
   W1 hb1
   (fun s A B row hsz hs hg' hr=>⟨hI s A B row hs.1 hg' (fun r e=>.inr (hr r e)),hobs hg' hr (by omega) hs.2.1,hobs hg' hr (by omega) hs.2.2⟩)
   ?_ ⟨hI1,hL1,hK1⟩).mono ?_
  ·rintro k W ⟨hi,hl,hk⟩ hlen
   have hlt:w.heap.size+1<W.heap.size:=(Array.getElem?_eq_some_iff.1 hl).1
   have hy:=run_yield (P:=P) (args:=xs k) hl (by rw[hrec];exact hps k)
   rw[hrec] at hy
   refine ⟨fn,_,assign,body,hy,roundIn_of_wpInP hfn hfns (hassign _ k W _ hi hlen (fun a' Wa hko hkp hia hax=>?_))⟩
   have hla:Wa.heap[w.heap.size+1]? = some (.loop (rec .ready none)):=hko.same _ _ hl rfl
   have hka:Wa.heap[w.heap.size]? = some (.deferred (some [])):=hko.same _ _ hk rfl
   have hlta:w.heap.size+1<Wa.heap.size:=(Array.getElem?_eq_some_iff.1 hla).1
   refine ⟨_,run_beginRound hla (by rw[hrec]),?_⟩
   have hl2:(Wa.putObj (w.heap.size+1) (.loop { rec .ready none with state:=.busy })).heap[w.heap.size+1]? = some (.loop { rec .ready none with state:=.busy }):=World.putObj_heap_same hlta
   have hk2:(Wa.putObj (w.heap.size+1) (.loop { rec .ready none with state:=.busy })).heap[w.heap.size]? = some (.deferred (some [])):=(World.putObj_heap_other (by omega)).trans hka
   have hw2:Kp Wa (Wa.putObj (w.heap.size+1) (.loop { rec .ready none with state:=.busy })):=hKb _ _ _ _ (by omega) hla rfl rfl
   refine wpIn_mono (hbody _ k a' _ (hI.putObj _ hia (by omega) hla rfl) ((hAx k a').putObj (s:=0) _ hax (by omega) hla rfl) hlen) ?_
   rintro e a3 W3 hp
   cases e with
   | normal =>
    obtain ⟨hk3,hkp3,hi3⟩:=hp
    have hl3:=hk3.same _ _ hl2 rfl
    have hr:=run_endRound (P:=P) none hl3
    rw[hrec] at hr hl3 ⊢
    exact ⟨_,_,hr,.inl ⟨rfl,⟨hI.putObj _ hi3 (by omega) hl3 rfl,World.putObj_heap_same (Array.getElem?_eq_some_iff.1 hl3).1,(World.putObj_heap_other (by omega)).trans (hk3.same _ _ hk2 rfl)⟩,hKt (hKt hkp (hKt hw2 hkp3)) (hKb _ _ _ _ (by omega) hl3 rfl rfl)⟩⟩
   | panic ch =>
    obtain ⟨hd,hk3,hp3⟩:=hp
    exact ⟨hd,.inr ⟨ch,rfl,hp3,hk3.same _ _ hk2 rfl⟩⟩
   | ret=>exact hp.elim
   | exit id=>exact hp.elim
   | goto t=>exact hp.elim
   | outgrown=>exact hp.elim
  ·rintro e W2 (⟨⟨v,rfl⟩,hi,hl,hk⟩ | ⟨ch,rfl,hi,hk⟩)
   ·exact ⟨none,_,by have:=run_endLoop (P:=P) hl (by rw[hrec];simp);rw[hrec] at this;exact this,hdone _ _ (Nat.le_refl _) (hI.putObj _ hi (by omega) hl rfl) ((World.putObj_heap_other (by omega)).trans hk)⟩
   ·exact hpan _ ch _ (Nat.le_refl _) hi hk

/-! ### A walk at a frame of one function -/
def wpF (f:FuncId) (P:Program) (c:Code) (Q:Exit→Act→World→Prop) (a:Act) (w:World):Prop :=
 ∀(b:Frame) (k:List Item) (cs:List Frame),b.roundOf=none→b.fn=f →
  ∃e a' w',Q e a' w'∧ArrivesIn (Machine.fenced P Fence.wide) P (lone (b.atR a (.code c :: k)) cs w) b k cs e a' w'
section
variable {f:FuncId} {Q:Exit→Act→World→Prop} {a:Act} {w:World}
theorem wpF_of_wp {c:Code} (h:c.wp P Q a w):wpF f P c Q a w:=fun b k cs hro _=>(wpIn_wide (n:=0)).2 h b k cs hro trivial (room_wide _)
theorem wpF_seq {x y:Code} (h:wpF f P x (Exit.then (wpF f P y Q) Q) a w):wpF f P (Code.seq x y) Q a w:=by
 intro b k cs hro hb
 have h0:(lone (b.atR a (.code (.seq x y) :: k)) cs w).fenced P Fence.wide:=fenced_wide _ _
 obtain ⟨e,a₁,w₁,hq,harr⟩:=h b (.code y :: k) cs hro hb
 cases e with
 | normal =>
  obtain ⟨e₂,a₂,w₂,hq₂,harr₂⟩:=hq b k cs hro hb
  exact ⟨e₂,a₂,w₂,hq₂,.of_steps (.head h0 stepR_seq harr) harr₂⟩
 | exit id=>exact ⟨_,a₁,w₁,hq,.of_steps (.one h0 stepR_seq) (.pass (x:=.code y) rfl (fun _ _=>.inl (by simp)) harr)⟩
 | goto l=>exact ⟨_,a₁,w₁,hq,.of_steps (.one h0 stepR_seq) (.pass (x:=.code y) rfl (fun _ _=>.inl (by simp)) harr)⟩
 | ret=>exact ⟨_,a₁,w₁,hq,.of_steps (.one h0 stepR_seq) (.pass (x:=.code y) rfl (fun _ _=>.inl (by simp)) harr)⟩
 | panic ch=>exact ⟨_,a₁,w₁,hq,.of_steps (.one h0 stepR_seq) (.pass (x:=.code y) rfl (fun _ _=>.inl (by simp)) harr)⟩
 | outgrown=>exact ⟨_,a₁,w₁,hq,.of_steps (.one h0 stepR_seq) (.pass (x:=.code y) rfl (fun _ _=>.inl (by simp)) harr)⟩
theorem wpF_block {id:Nat} {c:Code} (h:wpF f P c (Exit.inBlock id Q) a w):wpF f P (Code.block id c) Q a w:=by
 intro b k cs hro hb
 have h0:(lone (b.atR a (.code (.block id c) :: k)) cs w).fenced P Fence.wide:=fenced_wide _ _
 obtain ⟨e,a₁,w₁,hq,harr⟩:=h b (.inBlock id :: k) cs hro hb
 cases e with
 | normal=>exact ⟨.normal,a₁,w₁,hq,.head h0 stepR_block (StepsIn.trans harr (.one (fenced_wide _ _) stepR_inBlock))⟩
 | exit id' =>
  by_cases hid:id'=id
  ·simp only[Exit.inBlock,hid,if_true] at hq
   exact ⟨.normal,a₁,w₁,hq,.head h0 stepR_block (harr.1 k (by simp[exitTo,hid]))⟩
  ·simp only[Exit.inBlock,hid,if_false] at hq
   have this:(id==id')=false:=by simp;exact fun h=>hid h.symm
   have hx:exitTo id' (.inBlock id :: k)=exitTo id' k:=by simp[exitTo,this]
   exact ⟨.exit id',a₁,w₁,hq,fun k' hk=>.head h0 stepR_block (harr.1 k' (by rw[hx];exact hk)),
    fun hr' hk=>let ⟨k₁,h1,h2⟩:=harr.2 hr' (by rw[hx];exact hk);⟨k₁,h1,.head h0 stepR_block h2⟩⟩
 | goto l =>
  have hx:gotoIn l (.inBlock id :: k)=gotoIn l k:=by simp[gotoIn]
  exact ⟨_,a₁,w₁,hq,fun k' hk=>.head h0 stepR_block (harr.1 k' (by rw[hx];exact hk)),
   fun hr' hk=>let ⟨k₁,h1,h2⟩:=harr.2 hr' (by rw[hx];exact hk);⟨k₁,h1,.head h0 stepR_block h2⟩⟩
 | ret=>exact ⟨_,a₁,w₁,hq,.of_steps (.one h0 stepR_block) harr⟩
 | panic ch=>exact ⟨_,a₁,w₁,hq,.of_steps (.one h0 stepR_block) harr⟩
 | outgrown=>exact ⟨_,a₁,w₁,hq,.of_steps (.one h0 stepR_block) harr⟩
theorem wpF_rangeFunc {g:Operand} {ps:Array Tmp} {assign body:Code} {n:Nat}
  (h:∃(l:Nat) (mark:List Deferred) (w₁:World) (d:Deferred) (w₁':World) (f1:FuncId) (args:Array Value) (w₂:World),
   (Instr.enterLoop f a.tmps ps assign body none).run P w=.ok (l,mark) w₁ ∧
   (resolve a.eval (rangeCall g l) 0).run P w₁=.ok d w₁' ∧
   (∀f',Target.leads P w₁' d.target d.args=some f'→Fence.wide.fn f') ∧
   (invoke d.target d.args).run P w₁'=.ok (.enter f1 args) w₂ ∧
   (Fence.wide.depth.isSome=true→1≤n) ∧
   CallsIn Fence.wide (n-1) P f1 args w₂ (rangePost Fence.wide n P l Q { a with defers:=mark++a.defers })) :
  wpF f P (Code.rangeFunc g ps assign body) Q a w:=by
 intro b k cs hro hb
 obtain ⟨l,mark,w₁,d,w₁',f1,args,w₂,he,hres,hlead,hinv,hn,hF,hcall⟩:=h
 rw[←hro,←hb] at he
 have h0:(lone (b.atR a (.code (.rangeFunc g ps assign body) :: k)) cs w).fenced P Fence.wide:=fenced_wide _ _
 have henter:=stepR_rangeFunc (P:=P) (b:=b) (a:=a) (k:=k) (cs:=cs) (w:=w) he hres hinv
 obtain ⟨e,w₃,fr,hR,hsteps,hfn,hleave⟩:=hcall (b.atR { a with defers:=mark++a.defers } (.inRangeFunc l :: k) :: cs) (room_wide _)
 cases e with
 | outgrown =>
  obtain ⟨a₀,w₀,hq⟩:=hR
  exact ⟨.outgrown,a₀,w₀,hq,.inr (Outgrown.of_steps (.one henter) hsteps)⟩
 | returned v =>
  have hl:(lone fr (b.atR { a with defers:=mark++a.defers } (.inRangeFunc l :: k) :: cs) w₃).fenced P Fence.wide:=fenced_wide _ _
  obtain ⟨jump,w₄,hend,hj⟩:=hR
  have sback:StepsIn (Machine.fenced P Fence.wide) P (lone (b.atR a (.code (.rangeFunc g ps assign body) :: k)) cs w) (lone (b.atR { a with defers:=mark++a.defers } ((jump.map Item.code).toList++k)) cs w₄):=by
   refine .head h0 henter (StepsIn.trans hsteps (.head hl ?_ (.one (fenced_wide _ _) (stepR_endRangeFunc hend))))
   rw[←finish_atR_inRangeFunc l v];exact step_leave_returned hleave
  cases jump with
  | none=>exact ⟨.normal,_,w₄,hj,sback⟩
  | some c =>
   obtain ⟨e',a'',w₅,hq,harr⟩:=hj b k cs hro trivial (room_wide _)
   exact ⟨e',a'',w₅,hq,.of_steps sback harr⟩
 | panicked chain =>
  have hl:(lone fr (b.atR { a with defers:=mark++a.defers } (.inRangeFunc l :: k) :: cs) w₃).fenced P Fence.wide:=fenced_wide _ _
  refine ⟨.panic chain,_,w₃,hR,.inRangeFunc l :: k,.head h0 henter (StepsIn.trans hsteps (.one hl ?_))⟩
  rw[←Frame.raise_atR];exact step_leave_panicked hleave
end
theorem calls_of_wpF {f:FuncId} {fn:Func} {c:Code} {args:Array Value} {w:World} {R:Ending→World→Prop}
  (hf:P.funcs[f]? = some fn) (hb:fn.body=some c)
  (h:wpF f P c (bodyPostM Fence.wide 9 P fn R) { tmps:=args++Array.replicate (fn.ntmps-args.size) undef,defers:=[] } w):Calls P f args w R:=by
 refine (callsIn_wide (n:=9)).1 ⟨trivial,fun cs hr=>?_⟩
 let b:Frame:={ (default:Frame) with fn:=f,kind:=.normal,roundOf:=none }
 have henter:Frame.enter P f args .normal =
   b.atR { tmps:=args++Array.replicate (fn.ntmps-args.size) undef,defers:=[] } [.code c]:=by
  simp[Frame.enter,Frame.atR,hf,hb,b]
 obtain ⟨e,a',w',hq,harr⟩:=h b [] cs rfl rfl
 rw[←henter] at harr
 cases e with
 | normal =>
  obtain ⟨e',w'',fr',hR,hs,hfn,hl⟩:=leaves_stepsInM a'.defers .returning w' { b.atR a' [] with mode:=.returning } cs rfl rfl rfl hf rfl trivial hr hq
  exact ⟨e',w'',fr',hR,ComesIn.of_steps (StepsIn.trans harr (.one (fenced_wide _ _) (stepR_end rfl))) hs,hfn,hl⟩
 | ret =>
  obtain ⟨todo,hs₀⟩:=harr.1 rfl
  obtain ⟨e',w'',fr',hR,hs,hfn,hl⟩:=leaves_stepsInM a'.defers .returning w' { b.atR a' todo with mode:=.returning } cs rfl rfl rfl hf rfl trivial hr hq
  exact ⟨e',w'',fr',hR,ComesIn.of_steps hs₀ hs,hfn,hl⟩
 | panic chain =>
  obtain ⟨todo,hs₀⟩:=harr
  obtain ⟨e',w'',fr',hR,hs,hfn,hl⟩:=leaves_stepsInM a'.defers (.panicking chain) w' { b.atR a' todo with mode:=.panicking chain } cs rfl rfl rfl hf rfl trivial hr hq
  exact ⟨e',w'',fr',hR,ComesIn.of_steps hs₀ hs,hfn,hl⟩
 | exit id=>exact hq.elim
 | goto l=>exact hq.elim
 | outgrown=>exact ⟨.outgrown,w',b,hq,harr.resolve_left (by simp[b]),rfl,trivial⟩
end Go.Proofs.YtkohhdkkbaifoaaGreatDoor
