/-
  ScriptRuns: for every chain and every text the statement's function returns true, and its arguments read as before. The package-level variables read as the program's text lays them (the card ties them).
-/
import Derived.Test.YtkohhdkkbaifoaaGreatDoorRows
import Derived.Test.YtkohhdkkbaifoaaGreatDoorCards
import Derived.Test.YtkohhdkkbaifoaaGreatDoorTie
import Derived.Test.YtkohhdkkbaifoaaGreatDoorJn23
import Derived.Test.YtkohhdkkbaifoaaGreatDoorJn38
import Derived.ProofKit
import Derived.OpenShut
import Derived.SevenTiedAt
import Derived.Stop.Joined
import Derived.SizedLaws
namespace Go.Proofs.YtkohhdkkbaifoaaGreatDoor
open Go.RowKit PK

open Go.ChangeShapes Go.WideShapes Go.ChangeAt
open Go.ChangeMaps (open_string shut_string)

theorem own_LScRH:ownKnob Tryz.prog.godebug=none:=by kernel_rfl
theorem laidOut_LScRH:laidOutB Tryz.prog=true:=by kernel_rfl
set_option maxHeartbeats 2000000 in
set_option maxRecDepth 100000 in
theorem lifted_LScRH (os:Os) (started:os.Started) (H:Type) (enc:TypeId × Value→H) :
  ReturnsInHanded {} Tryz.checked os 3 .any (fun w args=>(Rows.scriptRunsSpec.pre enc Tryz.prog Tryz.f3 Rows.scriptRunsRow.domain false w args∧laidMetH Tryz.prog Rows.scriptRunsRow.laid w)∧sizedMet enc Tryz.prog Tryz.f3 (OpenSpec.ofChange Rows.scriptRunsSpec) false w args) (Rows.scriptRunsSpec.post enc Tryz.prog Tryz.f3 false true false false):=by
 refine returnsInHanded_of_change_and (C:=Tryz.checked) (X:=fun w _=>laidMetH Tryz.prog Rows.scriptRunsRow.laid w) (fun _ _ _ hh h=>h.of_heap hh) own_LScRH started (by kernel_rfl) Tryz.func3
  (ChangeSpec.witness_shaped (enc:=enc) (C:=Tryz.checked) (os:=os) (X:=fun w _=>laidMetH Tryz.prog Rows.scriptRunsRow.laid w) false (World.laidAll Tryz.prog os Rows.scriptRunsRow.laid) #[.slice none 0 0,.string ByteArray.empty] 8 (World.laidAll_os _ _ _) (World.shaped_of_ZipB (by kernel_rfl) (by kernel_rfl)) (by kernel_rfl) (by kernel_rfl) (by kernel_rfl) (laid_startR os _)) ?_
 intro W base args ds gs before hval0 hW _ hsz0 hL0 _
 have hval:∀(j:Nat) t v,Tryz.f3.params[j]? = some t→args[j]? = some v→Value.okWide Tryz.prog W .any base t v:=hval0
 have hsz:(DataW.weightsEach Tryz.prog (Tryz.f3.params.toList++Rows.scriptRunsSpec.plain.varTypes Tryz.prog) (ds++gs)).all (·≤reachBytes)=true:=hsz0
 have hL:laidMetH Tryz.prog Rows.scriptRunsRow.laid W:=hL0
 obtain ⟨hnm,hol⟩:=laid_allR hL
 have hW':=hW
 obtain ⟨p,q,hA0,hV,rfl,hfz,hnd⟩:=hW
 have hA:DataW.TrodAll enc Tryz.prog W 0 (fun _=>true) true Tryz.f3.params.toList args.toList ds p:=hA0
 rw[Tryz.params3] at hA hval hsz
 obtain ⟨v0,vs0,d0,ds0,p0,q0,hargs,rfl,rfl,h0,r0⟩:=trodAll_cons hA
 obtain ⟨v1,vs1,d1,ds1,p1,q1,rfl,rfl,rfl,h1,r1⟩:=trodAll_cons r0
 obtain ⟨rfl,rfl,rfl⟩:=trodAll_nil r1
 obtain rfl:args=#[v0,v1]:=by cases args;simp_all
 obtain ⟨rfl,rfl⟩:=trodVars_none hV
 obtain ⟨n0,l0,m0,hn0⟩:=open_chain (hval 0 22 v0 rfl rfl) h0
 have hb0:n0≤1099511627776:=by
  rcases hn0 with hn | ⟨ad,cp,el,sp,hn,hd,hle⟩
  ·obtain ⟨_,_,_,e,_⟩:=m0
   rw[hn] at e
   injection e with _ e _
   omega
  ·have z1:=sized_slice hsz (j:=0) (t:=22) (e:=31) (elems:=el) (spare:=sp) rfl (by rw[hd];rfl) Tryz.underlying22
   rw[show Tryz.prog.bytesOf 31=544 by kernel_rfl] at z1
   simp only[reachBytes] at z1
   omega
 have hz0:NilOr v0 n0:=by
  rcases hn0 with hn | ⟨ad,cp,el,sp,hn,hd,hle⟩
  ·obtain ⟨_,_,_,e,_⟩:=m0
   rw[hn] at e
   injection e with _ e _
   exact .inl ⟨hn,e.symm⟩
  ·exact .inr ⟨ad,cp,hn⟩
 obtain ⟨a1,rfl,rfl,rfl,w1⟩:=open_string Tryz.underlying9 (hval 1 9 v1 rfl rfl) h1
 have hs1:a1.size≤140737488355328:=by
  have z1:=sized_string hsz (j:=1) (t:=9) (bytes:=a1.data.toList) rfl rfl
  have z2:=Pl.size_len a1
  simp only[reachBytes] at z1
  omega
 clear hA0 hval0 hsz0 hsz hL0 hL
 refine (sruns_any v0 n0 l0 a1 W m0 hnm hol).mono fun e W' ⟨he,bel⟩=>?_
 subst he
 exact ⟨_,rfl,_,_,_,[],_,[],hW',trodAll_mk1 (shut_bool Tryz.underlying4 _),(trodAll_cons_mk (Below.trod laidOut_LScRH (by kernel_rfl) (of_decide_eq_true (by kernel_rfl)) h0 bel (fun x hx=>hW'.lt x (by simp[hx]))) (trodAll_cons_mk (shut_string Tryz.underlying9 w1) trodAll_mk0)),rfl,bel.frame _,fun h=>by cases h⟩
theorem scriptRuns_row:Rows.ScriptRunsSaid :=
 OpenClaim.holds_of_wide 3 Tryz.f3 rfl rfl rfl rfl rfl rfl rfl ⟨rfl,rfl,rfl,rfl,rfl⟩ rfl rfl rfl rfl rfl (by kernel_rfl) Tryz.func3 (by kernel_rfl)
  (of_decide_eq_true (by kernel_rfl)) (by unfold Func.isWrapper;first | (rw[if_pos (by decide +kernel)];kernel_rfl) | (rw[if_neg (by decide +kernel)];exact ⟨rfl,rfl⟩))
  (fun os started H enc _=>lifted_LScRH os started H enc)
theorem scriptRuns_holds:Rows.ScriptRunsCardSaid :=
 Claim7.holds_tied_plain_at .later [] [.data, .data, .data, .data, .called, .data, .data] true (true, "4bb2a71613071ffbbaeee5debb3a534deb2bf4a73d0042b90ffacc56369ac4a4") true scriptRuns_row (fun _ h => by cases h) (by kernel_rfl) (fun _ h => by cases h) scriptRuns_row_tie rfl ⟨rfl, rfl⟩ (by kernel_rfl) rfl
  (fun f fn hf hfn=>by
   obtain rfl : f = 3 := Option.some.inj ((show Tryz.prog.funcNamed "blackroom/blackroomlaw17.ScriptRuns" = some 3 by kernel_rfl).symm.trans hf) |>.symm
   obtain rfl:fn=Tryz.f3:=(Option.some.inj (Tryz.func3.symm.trans hfn)).symm
   exact ⟨by kernel_rfl,fun j t ht=>by
    rw[Tryz.params3] at ht
    have hm:t ∈ [22,9]:=by simpa using Array.mem_of_getElem? ht
    have hall:([22,9].all fun u=>!Tryz.prog.wantsStandIn u)=true:=by kernel_rfl
    exact (show Tryz.prog.wantsStandIn t=false by simpa using List.all_eq_true.1 hall t hm)⟩)
  (by kernel_rfl)
#print axioms scriptRuns_holds
end Go.Proofs.YtkohhdkkbaifoaaGreatDoor
