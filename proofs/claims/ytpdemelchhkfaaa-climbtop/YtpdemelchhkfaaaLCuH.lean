import Derived.Conc.HoldsTime
import Derived.Test.YtpdemelchhkfaaaRows
import Derived.Test.YtpdemelchhkfaaaJn35
namespace Go.Proofs.Ytpdemelchhkfaaa
open Go.RowKit PK Go.Conc Cs
open Go.ConcM (OsLater)
open Go.ChangeMaps (open_string shut_string)
open Go.ChangeShapes Go.WideShapes Go.ChangeAt
theorem zV {W:World} {a:Addr} {v:Value} (h:W.cell? (a.add 0)=some v):a.spot=none∧∃y T fr,W.heap[a.block]? = some (.cells y T fr):=by
 have e:a.add 0=a:=by unfold Addr.add;rw[if_pos rfl]
 rw[e] at h
 have hsp:=World.cell?_spot h
 exact ⟨hsp,ji h⟩
set_option maxRecDepth 100000 in
theorem pP {H:Type} {enc:TypeId × Value→H} {W:World} {base:Nat} {v:Value} {d:DataW H} {p:List MemPlace} (hval:Value.okWide Try.prog W .any base 22 v) (h:DataW.Trod enc Try.prog W 0 (fun _=>true) true 22 v d p) :
  ∃n f,aY W v n f∧Rt W v:=by
 obtain ⟨a0,len,cap,rfl⟩:=okWide_slice Try.underlying22 hval
 obtain ⟨fuel,hf⟩:=h
 rcases open_ints Try.underlying22 Try.underlying3 qA hf with ⟨hcs0,hx⟩ | ⟨a,len',cap',zs,hcs0,_,hl,hm,hzl,hx,hcell,_⟩
 ·simp[Value.cells] at hcs0
  obtain ⟨rfl,rfl,rfl⟩:=hcs0
  exact ⟨0,fun _=>0,⟨none,0,rfl,by decide,fun c hc=>by omega⟩,fun _ _ _ e=>by cases e⟩
 ·simp[Value.cells] at hcs0
  obtain ⟨rfl,rfl,rfl⟩:=hcs0
  simp at hzl
  refine ⟨len,fun c=>zs.getD c 0,⟨some a,cap,rfl,by omega,fun c hc=>?_⟩,fun a' l' c' e hp=>by cases e;exact zV (hcell 0 (by omega))⟩
  have h0:=hcell c (by omega)
  have hsp:=World.cell?_spot (hcell 0 (by omega))
  obtain ⟨bm,om,spot⟩:=a
  have hspot:spot=none:=by simpa [Addr.add] using hsp
  subst hspot
  exact ⟨bm,om,rfl,by rw[←add_plain];exact h0⟩
theorem sD {W W':World} (h:Kept W W'):Below W.heap.size W { W' with os:=W.os,tape:=W.tape }:=by
 refine ⟨rfl,rfl,h.2.2,?_,h.1⟩
 show W.heap.size≤W'.heap.size
 by_cases h0:W.heap.size=0
 ·omega
 ·have h1:=h.1 (W.heap.size-1) (by omega)
  have h2:(W'.heap[W.heap.size-1]?).isSome=true:=by rw[h1];simp;omega
  have h3:W.heap.size-1<W'.heap.size:=by simpa using h2
  omega
theorem sx {W W':World} (h:Kept W W') (may:MemPlace→Prop):W.keptBut { W' with os:=W.os } may:=by
 refine ⟨rfl,h.2.2,fun i hi=>?_⟩
 dsimp only
 rw[h.1 i hi]
 split <;> simp_all
set_option maxHeartbeats 1000000 in
set_option maxRecDepth 100000 in
theorem qF (os:Os) (started:os.Started) (H:Type) (enc:TypeId × Value→H) (F:Stop.Interp) :
  ReturnsInLeavingWide { calm:=true } Try.checked os 6 .any (Rows.climbTopSpec.pre6 enc Try.prog Try.f6 Rows.climbTopRow.domain false) ((OpenSpec.ofChange Rows.climbTopSpec).postWith enc Try.prog Try.f6 F (outsideKept [.timePasses]) false true false):=by
 refine returnsInLeavingWide_of_change_time (C:=Try.checked) Dd started Try.func6
  (ChangeSpec.witness6c (enc:=enc) (C:=Try.checked) ⟨#[],#[.string ⟨#[]⟩,.slice none 0 0,.int .u64 0,.int .i64 0,.int .i64 0,.int .i64 0],[]⟩ 60 (by kernel_rfl) (by kernel_rfl) (by kernel_rfl) (by kernel_rfl)) ?_
 intro W base args ds gs before hval0 hW hcnd hsz0 _
 have hval:∀(j:Nat) t v,Try.f6.params[j]? = some t→args[j]? = some v→Value.okWide Try.prog W .any base t v:=hval0
 have hW':=hW
 obtain ⟨p,q,hA0,hV,rfl,hfz,hnd⟩:=hW
 have hA:DataW.TrodAll enc Try.prog W 0 (fun _=>true) true Try.f6.params.toList args.toList ds p:=hA0
 rw[Try.params6] at hA hval
 obtain ⟨v0,vs0,d0,ds0,p0,q0,hargs,rfl,rfl,h0,r0⟩:=trodAll_cons hA
 obtain ⟨v1,vs1,d1,ds1,p1,q1,rfl,rfl,rfl,h1,r1⟩:=trodAll_cons r0
 obtain ⟨v2,vs2,d2,ds2,p2,q2,rfl,rfl,rfl,h2,r2⟩:=trodAll_cons r1
 obtain ⟨v3,vs3,d3,ds3,p3,q3,rfl,rfl,rfl,h3,r3⟩:=trodAll_cons r2
 obtain ⟨v4,vs4,d4,ds4,p4,q4,rfl,rfl,rfl,h4,r4⟩:=trodAll_cons r3
 obtain ⟨v5,vs5,d5,ds5,p5,q5,rfl,rfl,rfl,h5,r5⟩:=trodAll_cons r4
 obtain ⟨rfl,rfl,rfl⟩:=trodAll_nil r5
 obtain rfl:args=#[v0,v1,v2,v3,v4,v5]:=by cases args;simp_all
 obtain ⟨rfl,rfl⟩:=trodVars_none hV
 obtain ⟨a0,rfl,rfl,rfl,w0⟩:=open_string Try.underlying9 (hval 0 9 v0 rfl rfl) h0
 obtain ⟨n,f,m1,rt1⟩:=pP (hval 1 22 v1 rfl rfl) h1
 obtain ⟨a2,rfl,rfl,rfl,w2⟩:=open_int Try.underlying39 (hval 2 39 v2 rfl rfl) h2
 obtain ⟨a3,rfl,rfl,rfl,w3⟩:=open_int Try.underlying3 (hval 3 3 v3 rfl rfl) h3
 obtain ⟨a4,rfl,rfl,rfl,w4⟩:=open_int Try.underlying3 (hval 4 3 v4 rfl rfl) h4
 obtain ⟨a5,rfl,rfl,rfl,w5⟩:=open_int Try.underlying3 (hval 5 3 v5 rfl rfl) h5
 clear hA0 hval0 hsz0
 have post:∀W',Kept W W'→Rows.climbTopSpec.post enc Try.checked.prog Try.f6 false true false false W #[.string a0,v1,.int .u64 a2,.int .i64 a3,.int .i64 a4,.int .i64 a5] (.bool true) { W' with os:=W.os }:=fun W' hk=>by
  have bel:=sD hk
  have t1:=DataW.Trod.of_heap (w':={ W' with os:=W.os }) (by rfl) (Below.trod vN (by kernel_rfl) (of_decide_eq_true (by kernel_rfl)) h1 bel (fun x hx=>hW'.lt x (by simp[hx])))
  exact ⟨_,_,_,[],_,[],hW',trodAll_mk1 (shut_bool Try.underlying4 _),(trodAll_cons_mk (shut_string Try.underlying9 w0) (trodAll_cons_mk t1 (trodAll_cons_mk (shut_int Try.underlying39 w2) (trodAll_cons_mk (shut_int Try.underlying3 w3) (trodAll_cons_mk (shut_int Try.underlying3 w4) (trodAll_cons_mk (shut_int Try.underlying3 w5) trodAll_mk0)))))),rfl,sx hk _,fun h=>by cases h⟩
 obtain ⟨sd,rfl⟩:∃sd:Nat,a2=(sd:Int):=⟨a2.toNat,by
  have h:=w2
  simp only[Lit.wf,Bool.and_eq_true,decide_eq_true_eq] at h
  have h2:(0:Int)≤a2:=h.1
  omega⟩
 obtain ⟨M,last,o,w',t',e1,e2,e3,e4⟩:=zO a0 v1 n sd a3 a4 a5 f W m1 rt1
 exact ⟨M,last,o,w',t',e1,e2,e3,e4.mono fun v hv=>by obtain ⟨rfl,hk⟩:=hv;exact ⟨post _ hk,hk.2.1⟩⟩
theorem climbTop_holds:Rows.ClimbTopSaid :=
 OpenClaim.holds_of_wide_leaving_time 6 Try.f6 rfl rfl rfl rfl rfl rfl rfl ⟨rfl,rfl,rfl,rfl,rfl⟩ rfl rfl rfl rfl rfl (by kernel_rfl) Try.func6 (by kernel_rfl)
  (of_decide_eq_true (by kernel_rfl)) (by unfold Func.isWrapper;first | (rw[if_pos (by decide +kernel)];kernel_rfl) | (rw[if_neg (by decide +kernel)];exact ⟨rfl,rfl⟩))
  (fun os started H enc _ F=>qF os started H enc F)
#print axioms climbTop_holds
end Go.Proofs.Ytpdemelchhkfaaa
