/- TopBroken of blackroomtop, as its card states it: for every input that the card admits and on whatever order of the goroutines' steps. Conditions: none but the card's own (the listed package-level variables lie as they were laid). -/
import Derived.Test.YtpcnpkhgjanamaaGreatDoorPz
import Derived.Test.YtpcnpkhgjanamaaGreatDoorCards
import Derived.Test.YtpcnpkhgjanamaaGreatDoorTie
import Derived.Test.YtpcnpkhgjanamaaGreatDoorJn45
namespace Go.Proofs.YtpcnpkhgjanamaaGreatDoor
open Go.Proofs.Tryz renaming prog→qf,underlying9→YW,f3→ZO
set_option maxRecDepth 100000
set_option maxHeartbeats 2000000
open Go.RowKit PK Vg Go.Conc
open Go.ChangeShapes Go.WideShapes Go.ChangeAt
open Go.ChangeMaps (open_string shut_string)
theorem Hx{W:World}(h:laidMetH qf Rows.topBrokenRow.laid W):kW W∧ia W:=by
 rw[MakeChecks.laidMetH_plain _ _ _ vkr]at h;have h5:=h.tail.tail.tail.tail;have h7:=h5.tail.tail;exact⟨⟨D3 h7,G9 h7.tail⟩,Hv h5⟩
theorem Av(os:Os)(args:Array Value):laidMetH qf Rows.topBrokenRow.laid ((World.laidAll qf os Rows.topBrokenRow.laid).forCall (fun _ _=>0) ⟨#[],args,[]⟩).memory:=by
 rw[MakeChecks.laidMetH_plain _ _ _ vkr];exact laidMet_laidAll _ vkr vkr
theorem lB{H:Type}{enc:TypeId×Value→H}{a:Assume}{C:Checked}{os:Os}{f:FuncId}{fn:Func}{s:ChangeSpec}{conds:List PathCond}{apart fresh handsOn again:Bool}{X:World→Array Value→Prop}
  (hX:∀(w w':World) (args:Array Value),w.heap=w'.heap→X w args→X w' args)
  (own:ownKnob C.prog.godebug=none) (started:os.Started) (hfn:C.prog.funcs[f]?=some fn)
  (witness:∃(w:World) (tape:Tape) (i:Input),w.os=os∧(w.forCall tape i).Shaped C.prog∧i.vars=[]∧Input.okWide C.prog (w.forCall tape i) .any w.heap.size f i∧
   ((s.pre enc C.prog fn conds apart (w.forCall tape i).memory i.args∧X (w.forCall tape i).memory i.args)∧sizedMet enc C.prog fn (OpenSpec.ofChange s) apart (w.forCall tape i).memory i.args)∧a.holds C.prog (lone (Frame.enter C.prog f i.args .normal) [] (w.forCall tape i)))
  (runs:∀(W:World) (base:Nat) (args:Array Value) (ds gs:List (DataW H)) (before:List MemPlace),
   (∀(j:Nat) t v,fn.params[j]?=some t→args[j]?=some v→Value.okWide C.prog W .any base t v)→
   DataW.Whole enc C.prog fn.params.toList s.vars apart W args.toList ds gs before→
   conds.all (PathCond.test C.prog ⟨fn.params.toList,ds,s.plain.varTypes C.prog,gs⟩)=true→
   (DataW.weightsEach C.prog (fn.params.toList++s.plain.varTypes C.prog) (ds++gs)).all (·≤reachBytes)=true→X W args→
   a.holds C.prog (lone (Frame.enter C.prog f args .normal) [] W)→
   ∃M last o w' t',runNT C.prog (M+1) (solo (G (Frame.enter C.prog f args .normal) []) W) #[]=(.ended o w',t')∧runN C.prog M (solo (G (Frame.enter C.prog f args .normal) []) W)=.next last∧
    step C.prog last=.ended o w'∧Conc.Good C.prog (fun v W'=>s.post enc C.prog fn apart fresh handsOn again W args v W') last o w' t') :
  ReturnsInLeavingWide a C os f .any (fun w args=>(s.pre enc C.prog fn conds apart w args∧X w args)∧sizedMet enc C.prog fn (OpenSpec.ofChange s) apart w args) (s.post enc C.prog fn apart fresh handsOn again):=by
 refine returnsInLeavingWide_of_good own started witness ?_;intro w tape i _ _ _ hok hpre hholds;obtain⟨_,_,_,fn',b,_,_,_,_,hval⟩:=hok;have e:fn'=fn:=XG (b.symm.trans hfn);subst e;obtain⟨⟨⟨ds,gs,before,hw,hc⟩,hx⟩,hz⟩:=hpre;have c:=DataW.Whole.of_heap (w':=w.forCall tape i) vrf hw;obtain⟨M,last,o,w',t',h1,h2,h3,h4⟩:=runs (w.forCall tape i) w.heap.size i.args ds gs before hval c hc (hz.weights hw) (hX _ _ _ vrf hx) hholds;exact⟨M,last,o,w',t',h1,h2,h3,h4.mono fun v hp=>ChangeSpec.post_blind hp⟩
theorem Qi:ownKnob qf.godebug=none:=vkr
theorem BZ{W W':World}(h:Kept W W')(may:MemPlace→Prop):W.keptBut W' may:=by
 refine⟨h.2.1,h.2.2,fun i hi=>?_⟩;rw[h.1 i hi];split<;>simp_all
theorem GO(os:Os)(started:os.Started)(H:Type)(enc:TypeId×Value→H):
  ReturnsInLeavingWide {} Tryz.checked os 3 .any (fun w args=>(Rows.topBrokenSpec.pre enc qf ZO Rows.topBrokenRow.domain false w args∧laidMetH qf Rows.topBrokenRow.laid w)∧sizedMet enc qf ZO (OpenSpec.ofChange Rows.topBrokenSpec) false w args) (Rows.topBrokenSpec.post enc qf ZO false true false false):=by
 refine lB (C:=Tryz.checked) (X:=fun w _=>laidMetH qf Rows.topBrokenRow.laid w) (fun _ _ _ hh h=>h.of_heap hh) Qi started Tryz.func3
  (ChangeSpec.witness_shaped (enc:=enc) (C:=Tryz.checked) (os:=os) (X:=fun w _=>laidMetH qf Rows.topBrokenRow.laid w) false (World.laidAll qf os Rows.topBrokenRow.laid) #[.string ByteArray.empty,.string ByteArray.empty,.int .i64 0] 8 (World.laidAll_os _ _ _) (World.shaped_of_ZipB vkr vkr) vkr vkr vkr (Av os _)) ?_
 intro W base args ds gs before hval0 hW _ hsz0 hL0 _;have hval:∀(j:Nat) t v,Tryz.f3.params[j]?=some t→args[j]?=some v→Value.okWide qf W .any base t v:=hval0;have c:(DataW.weightsEach qf (Tryz.f3.params.toList++Rows.topBrokenSpec.plain.varTypes qf) (ds++gs)).all (·≤reachBytes)=true:=hsz0;have hL:laidMetH qf Rows.topBrokenRow.laid W:=hL0;obtain⟨a,d⟩:=Hx hL;have g:=hW;obtain⟨p,q,b,hV,rfl,k,i⟩:=hW;have hA:DataW.TrodAll enc qf W 0 (fun _=>true) true Tryz.f3.params.toList args.toList ds p:=b;rw[Tryz.params3]at hA hval c;obtain⟨v0,vs0,d0,ds0,p0,q0,f,rfl,rfl,h0,r0⟩:=trodAll_cons hA;obtain⟨v1,vs1,d1,ds1,p1,q1,rfl,rfl,rfl,h1,r1⟩:=trodAll_cons r0;obtain⟨v2,vs2,d2,ds2,p2,q2,rfl,rfl,rfl,h2,r2⟩:=trodAll_cons r1;obtain⟨rfl,rfl,rfl⟩:=trodAll_nil r2;obtain rfl:args=#[v0,v1,v2]:=by cases args;simp_all
 obtain⟨rfl,rfl⟩:=trodVars_none hV;obtain⟨a0,rfl,rfl,rfl,w0⟩:=open_string YW (hval 0 9 v0 rfl rfl) h0;obtain⟨a1,rfl,rfl,rfl,w1⟩:=open_string YW (hval 1 9 v1 rfl rfl) h1;obtain⟨a2,rfl,rfl,rfl,w2⟩:=open_int Tryz.underlying3 (hval 2 3 v2 rfl rfl) h2;clear b hval0 hsz0 c hL0 hL
 have post:∀W',Kept W W'→Rows.topBrokenSpec.post enc Tryz.checked.prog ZO false true false false W #[.string a0,.string a1,.int .i64 a2] (.bool true) W':=fun W' hk=>by
  exact⟨_,_,_,[],_,[],g,trodAll_mk1 (shut_bool Tryz.underlying4 _),(trodAll_cons_mk (shut_string YW w0) (trodAll_cons_mk (shut_string YW w1) (trodAll_cons_mk (shut_int Tryz.underlying3 w2) trodAll_mk0))),rfl,BZ hk _,fun h=>by cases h⟩
 by_cases hE:∃s,O8 a0 a1 a2 s
 ·obtain⟨s,hs⟩:=hE
  have k1:=hs.h1;obtain⟨n,rfl⟩:∃n:Nat,a2=(n:Int):=⟨a2.toNat,vom⟩
  obtain⟨M,last,o,w',t',e1,e2,e3,e4⟩:=SA a0 a1 n s hs W a d;exact⟨M,last,o,w',t',e1,e2,e3,e4.mono fun v hv=>by obtain⟨rfl,hk⟩:=hv;exact post _ hk⟩
 ·exact Gp ((OZ a0 a1 a2 W a d (fun s h=>hE ⟨s,h⟩)).mono fun e w' ⟨h5,h6⟩=>⟨_,h5,post w' ⟨h6.block,h6.os,h6.output⟩⟩) vkr
theorem wS:Rows.TopBrokenSaid:=
 OpenClaim.holds_of_wide_leaving 3 ZO rfl rfl rfl rfl rfl rfl rfl ⟨rfl,rfl,rfl,rfl,rfl⟩ rfl rfl rfl rfl rfl vkr Tryz.func3 vkr
  (of_decide_eq_true vkr) (by unfold Func.isWrapper;first|(rw[Wc (by decide +kernel)];kernel_rfl)|(rw[V9 (by decide +kernel)];exact⟨rfl,rfl⟩))
  (fun os started H enc _=>GO os started H enc)
theorem topBroken_holds:Rows.TopBrokenCardSaid:=by
 have hl:∀f fn,Tryz.pinned.checked.prog.funcNamed Rows.topBrokenRow.func=some f→Tryz.pinned.checked.prog.funcs[f]?=some fn→true=Tryz.pinned.checked.prog.looks []∧∀(j:Nat) t,fn.params[j]?=some t→Tryz.pinned.checked.prog.wantsStandIn t=false:=fun f fn hf hfn=>by
  obtain rfl : f = 3 := XG ((show qf.funcNamed "blackroom/blackroomtop.TopBroken" = some 3 by kernel_rfl).symm.trans hf) |>.symm
  obtain rfl:fn=ZO:=(XG (Tryz.func3.symm.trans hfn)).symm
  exact⟨vkr,fun j t ht=>by
   rw[Tryz.params3]at ht;have hm:t∈[9,9,3]:=by simpa using YU ht
   have hall:([9,9,3].all fun u=>!qf.wantsStandIn u)=true:=vkr;exact(show qf.wantsStandIn t=false by simpa using Yv.1 hall t hm)⟩
 have h6 : Claim7.isSixth { stood := { row := Rows.topBrokenRow, standIns := [], harness := (true, "e5666b61d438c6761d245403bca562ef10786e20d9d8d31e6a379e188ca9b35f"), looks := true }, kinds := [] } = false := by simp [Claim7.isSixth]
 exact ⟨Claim7.tied_new_at .later [.data, .data, .data, .data, .sentinel, .sentinel, .data, .called, .pinned] true (Claim7.new_of_sixth wS (true, "e5666b61d438c6761d245403bca562ef10786e20d9d8d31e6a379e188ca9b35f") true rfl ⟨rfl, rfl⟩ vkr h6 hl) vkr, fun D hD => (by cases hD), topBroken_row_tie, (fun h => by cases h), by kernel_rfl⟩
#print axioms topBroken_holds
end Go.Proofs.YtpcnpkhgjanamaaGreatDoor
