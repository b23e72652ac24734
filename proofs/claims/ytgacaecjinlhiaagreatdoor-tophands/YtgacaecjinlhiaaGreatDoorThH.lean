import Derived.Test.YtgacaecjinlhiaaGreatDoorCards
import Derived.Test.YtgacaecjinlhiaaGreatDoorTie
import Derived.Test.YtgacaecjinlhiaaGreatDoorJn41
namespace Go.Proofs.YtgacaecjinlhiaaGreatDoor
open Go.RowKit PK Vg Go.Conc
open Go.ChangeShapes Go.WideShapes Go.ChangeAt
open Go.ChangeMaps (open_string shut_string)
theorem AT {W:World} (h:laidMetH Tryz.prog Rows.topHandsRow.laid W):iE W∧fu W:=by
 rw[MakeChecks.laidMetH_plain _ _ _ (by kernel_rfl)] at h
 have h5:=h.tail.tail.tail.tail
 have h7:=h5.tail.tail
 exact ⟨⟨yG h7,BJ h7.tail⟩,AZ h5⟩
theorem uS (os:Os) (args:Array Value):laidMetH Tryz.prog Rows.topHandsRow.laid ((World.laidAll Tryz.prog os Rows.topHandsRow.laid).forCall (fun _ _=>0) ⟨#[],args,[]⟩).memory:=by
 rw[MakeChecks.laidMetH_plain _ _ _ (by kernel_rfl)]
 exact laidMet_laidAll _ (by kernel_rfl) (by kernel_rfl)
theorem iS {H:Type} {enc:TypeId × Value→H} {a:Assume} {C:Checked} {os:Os} {f:FuncId} {fn:Func} {s:ChangeSpec} {conds:List PathCond} {apart fresh handsOn again:Bool} {X:World→Array Value→Prop}
  (hX:∀(w w':World) (args:Array Value),w.heap=w'.heap→X w args→X w' args)
  (own:ownKnob C.prog.godebug=none) (started:os.Started) (hfn:C.prog.funcs[f]? = some fn)
  (witness:∃(w:World) (tape:Tape) (i:Input),w.os=os∧(w.forCall tape i).Shaped C.prog∧i.vars=[]∧Input.okWide C.prog (w.forCall tape i) .any w.heap.size f i ∧
   ((s.pre enc C.prog fn conds apart (w.forCall tape i).memory i.args∧X (w.forCall tape i).memory i.args)∧sizedMet enc C.prog fn (OpenSpec.ofChange s) apart (w.forCall tape i).memory i.args)∧a.holds C.prog (lone (Frame.enter C.prog f i.args .normal) [] (w.forCall tape i)))
  (runs:∀(W:World) (base:Nat) (args:Array Value) (ds gs:List (DataW H)) (before:List MemPlace),
   (∀(j:Nat) t v,fn.params[j]? = some t→args[j]? = some v→Value.okWide C.prog W .any base t v) →
   DataW.Whole enc C.prog fn.params.toList s.vars apart W args.toList ds gs before →
   conds.all (PathCond.test C.prog ⟨fn.params.toList,ds,s.plain.varTypes C.prog,gs⟩)=true →
   (DataW.weightsEach C.prog (fn.params.toList++s.plain.varTypes C.prog) (ds++gs)).all (·≤reachBytes)=true→X W args →
   a.holds C.prog (lone (Frame.enter C.prog f args .normal) [] W) →
   ∃M last o w' t',runNT C.prog (M+1) (solo (G (Frame.enter C.prog f args .normal) []) W) #[]=(.ended o w',t')∧runN C.prog M (solo (G (Frame.enter C.prog f args .normal) []) W)=.next last ∧
    step C.prog last=.ended o w'∧Conc.Good C.prog (fun v W'=>s.post enc C.prog fn apart fresh handsOn again W args v W') last o w' t') :
  ReturnsInLeavingWide a C os f .any (fun w args=>(s.pre enc C.prog fn conds apart w args∧X w args)∧sizedMet enc C.prog fn (OpenSpec.ofChange s) apart w args) (s.post enc C.prog fn apart fresh handsOn again):=by
 refine returnsInLeavingWide_of_good own started witness ?_
 intro w tape i _ _ _ hok hpre hholds
 obtain ⟨_,_,_,fn',hfn',_,_,_,_,hval⟩:=hok
 have e:fn'=fn:=Option.some.inj (hfn'.symm.trans hfn)
 subst e
 obtain ⟨⟨⟨ds,gs,before,hw,hc⟩,hx⟩,hz⟩:=hpre
 have hw':=DataW.Whole.of_heap (w':=w.forCall tape i) (by rfl) hw
 obtain ⟨M,last,o,w',t',h1,h2,h3,h4⟩:=runs (w.forCall tape i) w.heap.size i.args ds gs before hval hw' hc (hz.weights hw) (hX _ _ _ (by rfl) hx) hholds
 exact ⟨M,last,o,w',t',h1,h2,h3,h4.mono fun v hp=>ChangeSpec.post_blind hp⟩
theorem Jh:ownKnob Tryz.prog.godebug=none:=by kernel_rfl
theorem vP {W W':World} (h:Kept W W'):Below W.heap.size W { W' with tape:=W.tape }:=by
 refine ⟨h.2.1,rfl,h.2.2,?_,h.1⟩
 show W.heap.size≤W'.heap.size
 by_cases h0:W.heap.size=0
 ·omega
 ·have h1:=h.1 (W.heap.size-1) (by omega)
  have h2:(W'.heap[W.heap.size-1]?).isSome=true:=by rw[h1];simp;omega
  have h3:W.heap.size-1<W'.heap.size:=by simpa using h2
  omega
theorem uK {W W':World} (h:Kept W W') (may:MemPlace→Prop):W.keptBut W' may:=by
 refine ⟨h.2.1,h.2.2,fun i hi=>?_⟩
 rw[h.1 i hi]
 split <;> simp_all
set_option maxHeartbeats 2000000 in
set_option maxRecDepth 100000 in
theorem AG (os:Os) (started:os.Started) (H:Type) (enc:TypeId × Value→H) :
  ReturnsInLeavingWide {} Tryz.checked os 3 .any (fun w args=>(Rows.topHandsSpec.pre enc Tryz.prog Tryz.f3 Rows.topHandsRow.domain false w args∧laidMetH Tryz.prog Rows.topHandsRow.laid w)∧sizedMet enc Tryz.prog Tryz.f3 (OpenSpec.ofChange Rows.topHandsSpec) false w args) (Rows.topHandsSpec.post enc Tryz.prog Tryz.f3 false true false false):=by
 refine iS (C:=Tryz.checked) (X:=fun w _=>laidMetH Tryz.prog Rows.topHandsRow.laid w) (fun _ _ _ hh h=>h.of_heap hh) Jh started Tryz.func3
  (ChangeSpec.witness_shaped (enc:=enc) (C:=Tryz.checked) (os:=os) (X:=fun w _=>laidMetH Tryz.prog Rows.topHandsRow.laid w) false (World.laidAll Tryz.prog os Rows.topHandsRow.laid) #[.agg (mac (.slice none 0 0) (.slice none 0 0) (.slice none 0 0) (fun _=>0) (fun _=>0)),.string ByteArray.empty,.string ByteArray.empty,.int .i64 0,.int .i64 0] 8 (World.laidAll_os _ _ _) (World.shaped_of_ZipB (by kernel_rfl) (by kernel_rfl)) (by kernel_rfl) (by kernel_rfl) (by kernel_rfl) (uS os _)) ?_
 intro W base args ds gs before hval0 hW _ hsz0 hL0 _
 have hval:∀(j:Nat) t v,Tryz.f3.params[j]? = some t→args[j]? = some v→Value.okWide Tryz.prog W .any base t v:=hval0
 have hsz:(DataW.weightsEach Tryz.prog (Tryz.f3.params.toList++Rows.topHandsSpec.plain.varTypes Tryz.prog) (ds++gs)).all (·≤reachBytes)=true:=hsz0
 have hL:laidMetH Tryz.prog Rows.topHandsRow.laid W:=hL0
 obtain ⟨hnm,her⟩:=AT hL
 have hW':=hW
 obtain ⟨p,q,hA0,hV,rfl,hfz,hnd⟩:=hW
 have hA:DataW.TrodAll enc Tryz.prog W 0 (fun _=>true) true Tryz.f3.params.toList args.toList ds p:=hA0
 rw[Tryz.params3] at hA hval hsz
 obtain ⟨v0,vs0,d0,ds0,p0,q0,hargs,rfl,rfl,h0,r0⟩:=trodAll_cons hA
 obtain ⟨v1,vs1,d1,ds1,p1,q1,rfl,rfl,rfl,h1,r1⟩:=trodAll_cons r0
 obtain ⟨v2,vs2,d2,ds2,p2,q2,rfl,rfl,rfl,h2,r2⟩:=trodAll_cons r1
 obtain ⟨v3,vs3,d3,ds3,p3,q3,rfl,rfl,rfl,h3,r3⟩:=trodAll_cons r2
 obtain ⟨v4,vs4,d4,ds4,p4,q4,rfl,rfl,rfl,h4,r4⟩:=trodAll_cons r3
 obtain ⟨rfl,rfl,rfl⟩:=trodAll_nil r4
 obtain rfl:args=#[v0,v1,v2,v3,v4]:=by cases args;simp_all
 obtain ⟨rfl,rfl⟩:=trodVars_none hV
 obtain ⟨g0,m0,hb0,hr0⟩:=qI (hval 0 27 v0 rfl rfl) h0
 obtain ⟨a1,rfl,rfl,rfl,w1⟩:=open_string Tryz.underlying9 (hval 1 9 v1 rfl rfl) h1
 obtain ⟨a2,rfl,rfl,rfl,w2⟩:=open_string Tryz.underlying9 (hval 2 9 v2 rfl rfl) h2
 obtain ⟨a3,rfl,rfl,rfl,w3⟩:=open_int Tryz.underlying3 (hval 3 3 v3 rfl rfl) h3
 obtain ⟨a4,rfl,rfl,rfl,w4⟩:=open_int Tryz.underlying3 (hval 4 3 v4 rfl rfl) h4
 have hfits:∀n,Fit 27 d0 n→n*8≤140737488355328:=fun n hn=>by
  rcases hn with hn | ⟨k,hk,hle⟩
  ·omega
  ·have h5:=List.all_eq_true.1 hsz k (DataW.weights_mem_each (j:=0) (t:=27) rfl rfl k hk)
   have h6:k≤reachBytes:=by simpa using h5
   simp only[reachBytes] at h6
   omega
 clear hA0 hval0 hsz0 hsz hL0 hL
 have post:∀W',Kept W W'→Rows.topHandsSpec.post enc Tryz.checked.prog Tryz.f3 false true false false W #[v0,.string a1,.string a2,.int .i64 a3,.int .i64 a4] (.bool true) W':=fun W' hk=>by
  have bel:=vP hk
  have t0:=DataW.Trod.of_heap (w':=W') (by rfl) (Below.trod AD (by kernel_rfl) (of_decide_eq_true (by kernel_rfl)) h0 bel (fun x hx=>hW'.lt x (by simp[hx])))
  exact ⟨_,_,_,[],_,[],hW',trodAll_mk1 (shut_bool Tryz.underlying4 _),(trodAll_cons_mk t0 (trodAll_cons_mk (shut_string Tryz.underlying9 w1) (trodAll_cons_mk (shut_string Tryz.underlying9 w2) (trodAll_cons_mk (shut_int Tryz.underlying3 w3) (trodAll_cons_mk (shut_int Tryz.underlying3 w4) trodAll_mk0))))),rfl,uK hk _,fun h=>by cases h⟩
 by_cases hE:g0.n≤1∧1≤a3∧a3≤16∧1≤a4∧a4≤16∧bwE g0 a1.data.toList a2.data.toList=0
 ·obtain ⟨k0,k1,k2,k3,k4,hW0⟩:=hE
  obtain ⟨n1,rfl⟩:∃n:Nat,a3=(n:Int):=⟨a3.toNat,by omega⟩
  obtain ⟨n2,rfl⟩:∃n:Nat,a4=(n:Int):=⟨a4.toNat,by omega⟩
  obtain ⟨a,b,c,rfl,ka,kb,kc,ra,rb,rc⟩:=m0
  obtain ⟨M,last,o,w',t',e1,e2,e3,e4⟩:=Kh a b c g0 a1 a2 hW0 n1 n2 k0 k1 k2 k3 k4 (gT hW0).1 (fun r hr=>hfits _ (hb0 r hr)) (hfits _ hr0) W hnm her ka kb kc ra rb rc
  exact ⟨M,last,o,w',t',e1,e2,e3,e4.mono fun v hv=>by obtain ⟨rfl,hk⟩:=hv;exact post _ hk⟩
 ·exact AK ((Hi v0 g0 a1 a2 a3 a4 W m0.at_ hnm her hE).mono fun e w' ⟨h5,h6⟩=>⟨_,h5,post w' ⟨h6.block,h6.os,h6.output⟩⟩) (by kernel_rfl)
theorem ua:Rows.TopHandsSaid :=
 OpenClaim.holds_of_wide_leaving 3 Tryz.f3 rfl rfl rfl rfl rfl rfl rfl ⟨rfl,rfl,rfl,rfl,rfl⟩ rfl rfl rfl rfl rfl (by kernel_rfl) Tryz.func3 (by kernel_rfl)
  (of_decide_eq_true (by kernel_rfl)) (by unfold Func.isWrapper;first | (rw[if_pos (by decide +kernel)];kernel_rfl) | (rw[if_neg (by decide +kernel)];exact ⟨rfl,rfl⟩))
  (fun os started H enc _=>AG os started H enc)
theorem topHands_holds:Rows.TopHandsCardSaid:=by
 have hl:∀f fn,Tryz.pinned.checked.prog.funcNamed Rows.topHandsRow.func=some f→Tryz.pinned.checked.prog.funcs[f]? = some fn→true=Tryz.pinned.checked.prog.looks []∧∀(j:Nat) t,fn.params[j]? = some t→Tryz.pinned.checked.prog.wantsStandIn t=false:=fun f fn hf hfn=>by
  obtain rfl : f = 3 := Option.some.inj ((show Tryz.prog.funcNamed "blackroom/blackroomtop.TopHands" = some 3 by kernel_rfl).symm.trans hf) |>.symm
  obtain rfl:fn=Tryz.f3:=(Option.some.inj (Tryz.func3.symm.trans hfn)).symm
  exact ⟨by kernel_rfl,fun j t ht=>by
   rw[Tryz.params3] at ht
   have hm:t ∈ [27,9,9,3,3]:=by simpa using Array.mem_of_getElem? ht
   have hall:([27,9,9,3,3].all fun u=>!Tryz.prog.wantsStandIn u)=true:=by kernel_rfl
   exact (show Tryz.prog.wantsStandIn t=false by simpa using List.all_eq_true.1 hall t hm)⟩
 have h6 : Claim7.isSixth { stood := { row := Rows.topHandsRow, standIns := [], harness := (true, "d244463b11cbae5cebca61a080429c7627196ea4000c96f8ae4e4e303f4a942a"), looks := true }, kinds := [] } = false := by simp [Claim7.isSixth]
 exact ⟨Claim7.tied_new_at .later [.data, .data, .data, .data, .sentinel, .sentinel, .data, .called, .pinned] true (Claim7.new_of_sixth ua (true, "d244463b11cbae5cebca61a080429c7627196ea4000c96f8ae4e4e303f4a942a") true rfl ⟨rfl, rfl⟩ (by kernel_rfl) h6 hl) (by kernel_rfl), fun D hD => (by cases hD), topHands_row_tie, (fun h => by cases h), by kernel_rfl⟩
#print axioms topHands_holds
end Go.Proofs.YtgacaecjinlhiaaGreatDoor
