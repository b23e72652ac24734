import Derived.Test.YtpdemelchhkfaaaJn14
namespace Go.Proofs.Ytpdemelchhkfaaa
namespace Cs
open Go.Conc PK
structure Bd where
 key:Nat→Int
 sc:Int
 tr:Int
def bdF (b:Bd) (i:Nat):Int:=if i<26 then b.key i else if i=26 then b.sc else b.tr
def eBd (b:Bd) (i:Nat):Value:=.int .i64 (bdF b (i-2))
def upB (K:Nat→Nat→Int) (Z:Nat→Int) (b:Bd) (k:Nat):Bd:=if b.sc<Z k∨(Z k=b.sc∧((k:Nat):Int)<b.tr) then ⟨K k,Z k,(k:Nat)⟩ else b
theorem yT (K:Nat→Nat→Int) (Z:Nat→Int) (b:Bd) (j k:Nat) (h:j≠k):upB K Z (upB K Z b j) k=upB K Z (upB K Z b k) j:=by
 unfold upB
 by_cases h1:b.sc<Z j∨(Z j=b.sc∧((j:Nat):Int)<b.tr)
 ·by_cases h2:b.sc<Z k∨(Z k=b.sc∧((k:Nat):Int)<b.tr)
  ·rw[if_pos h1,if_pos h2]
   by_cases h3:Z j<Z k∨(Z k=Z j∧((k:Nat):Int)<((j:Nat):Int))
   ·rw[if_pos h3,if_neg (by show ¬(Z k<Z j∨(Z j=Z k∧((j:Nat):Int)<((k:Nat):Int)));omega)]
   ·rw[if_neg h3,if_pos (by show Z k<Z j∨(Z j=Z k∧((j:Nat):Int)<((k:Nat):Int));omega)]
  ·rw[if_pos h1,if_neg h2,if_pos h1,if_neg (by show ¬(Z j<Z k∨(Z k=Z j∧((k:Nat):Int)<((j:Nat):Int)));omega)]
 ·by_cases h2:b.sc<Z k∨(Z k=b.sc∧((k:Nat):Int)<b.tr)
  ·rw[if_neg h1,if_pos h2,if_neg (by show ¬(Z k<Z j∨(Z j=Z k∧((j:Nat):Int)<((k:Nat):Int)));omega)]
  ·rw[if_neg h1,if_neg h2,if_neg h1]
def ek (K:Nat→Nat→Int) (Z:Nat→Int) (k:Nat):Nat→Int:=bdF ⟨K k,Z k,(k:Nat)⟩
noncomputable def tO:Array Oper:=match Try.f54.body.getD .skip with | .seq _ (.seq _ (.seq _ (.seq (.region _ o _) _)))=>o | _=>#[]
theorem BM:fX tO=true:=by kernel_rfl
theorem jC:tO.size=28:=by kernel_rfl
def tV (fd q:Nat) (S bs bt kk:Int) (g e l:Bool):Nat→Value
 | 0=>.pointer (some ⟨q,26,none⟩)
 | 1=>.int .i64 S
 | 2=>.pointer (some ⟨fd,0,none⟩)
 | 3=>.pointer (some ⟨fd,0,none⟩)
 | 4=>.pointer (some ⟨fd,2,none⟩)
 | 5=>.pointer (some ⟨fd,28,none⟩)
 | 6=>.int .i64 bs
 | 7=>.bool g
 | 8=>.bool g
 | 9=>(if g=true then undef else .pointer (some ⟨q,26,none⟩))
 | 10=>(if g=true then undef else .int .i64 S)
 | 11=>(if g=true then undef else .pointer (some ⟨fd,0,none⟩))
 | 12=>(if g=true then undef else .pointer (some ⟨fd,0,none⟩))
 | 13=>(if g=true then undef else .pointer (some ⟨fd,2,none⟩))
 | 14=>(if g=true then undef else .pointer (some ⟨fd,28,none⟩))
 | 15=>(if g=true then undef else .int .i64 bs)
 | 16=>(if g=true then undef else .bool e)
 | 17=>(if g=true then undef else .bool e)
 | 18=>(if g=true then undef else if e=true then .pointer (some ⟨q,27,none⟩) else undef)
 | 19=>(if g=true then undef else if e=true then .int .i64 kk else undef)
 | 20=>(if g=true then undef else if e=true then .pointer (some ⟨fd,0,none⟩) else undef)
 | 21=>(if g=true then undef else if e=true then .pointer (some ⟨fd,0,none⟩) else undef)
 | 22=>(if g=true then undef else if e=true then .pointer (some ⟨fd,2,none⟩) else undef)
 | 23=>(if g=true then undef else if e=true then .pointer (some ⟨fd,29,none⟩) else undef)
 | 24=>(if g=true then undef else if e=true then .int .i64 bt else undef)
 | 25=>(if g=true then undef else if e=true then .bool l else undef)
 | 26=>(if g=true then undef else .bool (e && l))
 | 27=>.bool (g || (e && l))
 | _=>undef
structure TlI (V:Nat→Value) (fd q:Nat) (l:Array Bool) (T:Array Value):Prop where
 size:T.size=43
 ls:l.size=28
 t0:T[0]? = some (.pointer (some ⟨fd,0,none⟩))
 t3:T[3]? = some (.pointer (some ⟨q,0,none⟩))
 done:∀d,d<28→l.getD d false=true→T[d+11]? = some (V d)
structure TW3 (fd q:Nat) (S bs bt kk:Int) (w:World):Prop where
 s:w.cell? ⟨q,26,none⟩=some (.int .i64 S)
 k:w.cell? ⟨q,27,none⟩=some (.int .i64 kk)
 bs:w.cell? ⟨fd,28,none⟩=some (.int .i64 bs)
 bt:w.cell? ⟨fd,29,none⟩=some (.int .i64 bt)
def EvT (fd q:Nat) (e:Event):Prop:=(∃a:Addr,e=⟨.cell a,false,false⟩∧a.block=q)∨∃o,2≤o∧e=⟨.cell ⟨fd,o,none⟩,false,false⟩
section
variable {V:Nat→Value} {fd q:Nat} {l:Array Bool} {T:Array Value}
theorem TlI.put (h:TlI V fd q l T) {i:Nat} (hi:i<28) {v:Value} (hv:v=V i):TlI V fd q (l.setIfInBounds i true) (T.setIfInBounds (i+11) v):=by
 subst hv
 have hs:=h.size
 have hl:=h.ls
 refine ⟨by simp[hs],by simp[hl],?_,?_,fun d hd hld=>?_⟩
 ·rw[Array.getElem?_setIfInBounds_ne (by omega)];exact h.t0
 ·rw[Array.getElem?_setIfInBounds_ne (by omega)];exact h.t3
 ·by_cases e:d=i
  ·subst e
   rw[Array.getElem?_setIfInBounds_self_of_lt (by omega)]
  ·rw[Array.getElem?_setIfInBounds_ne (by omega)]
   refine h.done d hd ?_
   rw[Array.getD_eq_getD_getElem?,Array.getElem?_setIfInBounds_ne (by omega)] at hld
   rw[Array.getD_eq_getD_getElem?]
   exact hld
theorem aA {md:Region.Mode} {i j:Nat} (h:i ∈ Region.ready md tO l) (hj:((tO[i]?).map (·.after.any fun e=>decide (e.on=j) && (match e.ground with | .textOnly _=>false | .gcOnly _=>false | _=>true))).getD false=true):l.getD j false=true:=by
 obtain ⟨_,o,ho,he⟩:=mem_ready.1 h
 rw[ho] at hj
 simp only[Option.map_some,Option.getD_some,Array.any_eq_true'] at hj
 obtain ⟨e,hm,h2⟩:=hj
 rw[Bool.and_eq_true] at h2
 rw[←of_decide_eq_true h2.1]
 refine he e hm ?_
 have h3:=h2.2
 unfold Region.binds
 split at h3 <;> simp_all
theorem bG {P:Program} {main:Bool} {ops:Array Oper} {i:Nat} {o:Oper} {d:Nat} {v:Value} {ds:List Deferred} {b:Frame} {rest:List Nat} {kk:List Item} {cs:List Frame} {w:World} (ho:ops[i]? = some o) (hg:Region.wanted o (yielded ops T)=true) (hb:b.kind≠.early) (hd:o.dst=some d) (hr:(execOp (Act.eval ⟨T,ds⟩) o).run P w=.ok (.value v) w) (he:∀e ∈ (execOp (Act.eval ⟨T,ds⟩) o).events P w #[],EvT fd q e) :
  ∃es,stepG P main (G (b.at ⟨T,ds⟩ (.inRegion ops (i :: rest) :: kk)) cs) w=.go (G (b.at ⟨T.setIfInBounds d v,ds⟩ (.inRegion ops rest :: kk)) cs) w es∧∀e ∈ es,EvT fd q e :=
 ⟨_,by rw[stepG_value ho hg hb hr,hd];rfl,fun e h=>he e (mem_listed h)⟩
theorem bO {P:Program} {main:Bool} {ops:Array Oper} {i:Nat} {o:Oper} {d:Nat} {ds:List Deferred} {b:Frame} {rest:List Nat} {kk:List Item} {cs:List Frame} {w:World} (ho:ops[i]? = some o) (hg:Region.wanted o (yielded ops T)=false) (hd:o.dst=some d) :
  ∃es,stepG P main (G (b.at ⟨T,ds⟩ (.inRegion ops (i :: rest) :: kk)) cs) w=.go (G (b.at ⟨T.setIfInBounds d undef,ds⟩ (.inRegion ops rest :: kk)) cs) w es∧∀e ∈ es,EvT fd q e :=
 ⟨_,by rw[stepG_unwanted ho hg,hd];rfl,fun e h=>by simp at h⟩
theorem aH {j d:Nat} {want:Bool} {o:Oper} {v:Value} (hg:o.guard=some (j,want)) (hd:((tO[j]?).bind (·.dst))=some d) (hT:T[d]? = some v):Region.wanted o (yielded tO T)=((match v with | .bool b=>some b | _=>none)==some want):=by
 have hy:yielded tO T j=(match v with | .bool b=>some b | _=>none):=by
  unfold yielded
  have h2:((tO[j]?).bind (·.dst)).bind (T[·]?)=some v:=by rw[hd];exact hT
  rw[h2]
  cases v <;> rfl
 unfold Region.wanted
 rw[hg]
 show (yielded tO T j==some want)=_
 rw[hy]
end
end Cs
namespace Cs
open Go.Conc PK
section
variable {fd q:Nat} {S bs bt kt:Int} {g e l9:Bool} {md:Region.Mode} {l:Array Bool} {T:Array Value} {ds:List Deferred} {b:Frame} {rest:List Nat} {kk:List Item} {cs:List Frame} {w:World}
set_option maxRecDepth 100000 in
theorem zN (_hb:b.kind≠.early) (_hg:g=decide (bs<S)) (_he:e=decide (S=bs)) (_hl:l9=decide (kt<bt)) (h:TlI (tV fd q S bs bt kt g e l9) fd q l T) (_hw:TW3 fd q S bs bt kt w) (_hr:0 ∈ Region.ready md tO l) :
  ∃es,stepG Try.prog false (G (b.at ⟨T,ds⟩ (.inRegion tO (0 :: rest) :: kk)) cs) w=.go (G (b.at ⟨T.setIfInBounds 11 (tV fd q S bs bt kt g e l9 0),ds⟩ (.inRegion tO rest :: kk)) cs) w es∧∀e ∈ es,EvT fd q e:=by
 have z:=h.t3
 refine bG (o:=tO.getD 0 default) rfl rfl _hb rfl ?_ (fun x hx=>?_)
 ·simp[execOp,go_sem,tO,Try.f54,tV,z]
 ·simp[execOp,go_sem,tO,Try.f54,z] at hx
set_option maxRecDepth 100000 in
theorem zI (_hb:b.kind≠.early) (_hg:g=decide (bs<S)) (_he:e=decide (S=bs)) (_hl:l9=decide (kt<bt)) (h:TlI (tV fd q S bs bt kt g e l9) fd q l T) (_hw:TW3 fd q S bs bt kt w) (_hr:1 ∈ Region.ready md tO l) :
  ∃es,stepG Try.prog false (G (b.at ⟨T,ds⟩ (.inRegion tO (1 :: rest) :: kk)) cs) w=.go (G (b.at ⟨T.setIfInBounds 12 (tV fd q S bs bt kt g e l9 1),ds⟩ (.inRegion tO rest :: kk)) cs) w es∧∀e ∈ es,EvT fd q e:=by
 have n0:=h.done 0 (by omega) (aA _hr (by kernel_rfl))
 simp only[tV] at n0
 have f:=_hw.s
 refine bG (o:=tO.getD 1 default) rfl rfl _hb rfl ?_ (fun x hx=>?_)
 ·simp[execOp,go_sem,tO,Try.f54,tV,n0,f]
 ·simp[execOp,go_sem,tO,Try.f54,n0,f] at hx
  subst hx
  exact .inl ⟨_,rfl,rfl⟩
set_option maxRecDepth 100000 in
theorem Ad (_hb:b.kind≠.early) (_hg:g=decide (bs<S)) (_he:e=decide (S=bs)) (_hl:l9=decide (kt<bt)) (h:TlI (tV fd q S bs bt kt g e l9) fd q l T) (_hw:TW3 fd q S bs bt kt w) (_hr:2 ∈ Region.ready md tO l) :
  ∃es,stepG Try.prog false (G (b.at ⟨T,ds⟩ (.inRegion tO (2 :: rest) :: kk)) cs) w=.go (G (b.at ⟨T.setIfInBounds 13 (tV fd q S bs bt kt g e l9 2),ds⟩ (.inRegion tO rest :: kk)) cs) w es∧∀e ∈ es,EvT fd q e:=by
 have z:=h.t0
 refine bG (o:=tO.getD 2 default) rfl rfl _hb rfl ?_ (fun x hx=>?_)
 ·simp[execOp,go_sem,tO,Try.f54,tV,z]
 ·simp[execOp,go_sem,tO,Try.f54,z] at hx
set_option maxRecDepth 100000 in
theorem yV (_hb:b.kind≠.early) (_hg:g=decide (bs<S)) (_he:e=decide (S=bs)) (_hl:l9=decide (kt<bt)) (h:TlI (tV fd q S bs bt kt g e l9) fd q l T) (_hw:TW3 fd q S bs bt kt w) (_hr:3 ∈ Region.ready md tO l) :
  ∃es,stepG Try.prog false (G (b.at ⟨T,ds⟩ (.inRegion tO (3 :: rest) :: kk)) cs) w=.go (G (b.at ⟨T.setIfInBounds 14 (tV fd q S bs bt kt g e l9 3),ds⟩ (.inRegion tO rest :: kk)) cs) w es∧∀e ∈ es,EvT fd q e:=by
 have n2:=h.done 2 (by omega) (aA _hr (by kernel_rfl))
 simp only[tV] at n2
 refine bG (o:=tO.getD 3 default) rfl rfl _hb rfl ?_ (fun x hx=>?_)
 ·simp[execOp,go_sem,tO,Try.f54,tV,n2]
 ·simp[execOp,go_sem,tO,Try.f54,n2] at hx
set_option maxRecDepth 100000 in
theorem zR (_hb:b.kind≠.early) (_hg:g=decide (bs<S)) (_he:e=decide (S=bs)) (_hl:l9=decide (kt<bt)) (h:TlI (tV fd q S bs bt kt g e l9) fd q l T) (_hw:TW3 fd q S bs bt kt w) (_hr:4 ∈ Region.ready md tO l) :
  ∃es,stepG Try.prog false (G (b.at ⟨T,ds⟩ (.inRegion tO (4 :: rest) :: kk)) cs) w=.go (G (b.at ⟨T.setIfInBounds 15 (tV fd q S bs bt kt g e l9 4),ds⟩ (.inRegion tO rest :: kk)) cs) w es∧∀e ∈ es,EvT fd q e:=by
 have n3:=h.done 3 (by omega) (aA _hr (by kernel_rfl))
 simp only[tV] at n3
 refine bG (o:=tO.getD 4 default) rfl rfl _hb rfl ?_ (fun x hx=>?_)
 ·simp[execOp,go_sem,tO,Try.f54,tV,n3]
 ·simp[execOp,go_sem,tO,Try.f54,n3] at hx
set_option maxRecDepth 100000 in
theorem Ap (_hb:b.kind≠.early) (_hg:g=decide (bs<S)) (_he:e=decide (S=bs)) (_hl:l9=decide (kt<bt)) (h:TlI (tV fd q S bs bt kt g e l9) fd q l T) (_hw:TW3 fd q S bs bt kt w) (_hr:5 ∈ Region.ready md tO l) :
  ∃es,stepG Try.prog false (G (b.at ⟨T,ds⟩ (.inRegion tO (5 :: rest) :: kk)) cs) w=.go (G (b.at ⟨T.setIfInBounds 16 (tV fd q S bs bt kt g e l9 5),ds⟩ (.inRegion tO rest :: kk)) cs) w es∧∀e ∈ es,EvT fd q e:=by
 have n4:=h.done 4 (by omega) (aA _hr (by kernel_rfl))
 simp only[tV] at n4
 refine bG (o:=tO.getD 5 default) rfl rfl _hb rfl ?_ (fun x hx=>?_)
 ·simp[execOp,go_sem,tO,Try.f54,tV,n4]
 ·simp[execOp,go_sem,tO,Try.f54,n4] at hx
set_option maxRecDepth 100000 in
theorem zT (_hb:b.kind≠.early) (_hg:g=decide (bs<S)) (_he:e=decide (S=bs)) (_hl:l9=decide (kt<bt)) (h:TlI (tV fd q S bs bt kt g e l9) fd q l T) (_hw:TW3 fd q S bs bt kt w) (_hr:6 ∈ Region.ready md tO l) :
  ∃es,stepG Try.prog false (G (b.at ⟨T,ds⟩ (.inRegion tO (6 :: rest) :: kk)) cs) w=.go (G (b.at ⟨T.setIfInBounds 17 (tV fd q S bs bt kt g e l9 6),ds⟩ (.inRegion tO rest :: kk)) cs) w es∧∀e ∈ es,EvT fd q e:=by
 have n5:=h.done 5 (by omega) (aA _hr (by kernel_rfl))
 simp only[tV] at n5
 have f:=_hw.bs
 refine bG (o:=tO.getD 6 default) rfl rfl _hb rfl ?_ (fun x hx=>?_)
 ·simp[execOp,go_sem,tO,Try.f54,tV,n5,f]
 ·simp[execOp,go_sem,tO,Try.f54,n5,f] at hx
  subst hx
  exact .inr ⟨_,by decide,rfl⟩
set_option maxRecDepth 100000 in
theorem y6 (_hb:b.kind≠.early) (_hg:g=decide (bs<S)) (_he:e=decide (S=bs)) (_hl:l9=decide (kt<bt)) (h:TlI (tV fd q S bs bt kt g e l9) fd q l T) (_hw:TW3 fd q S bs bt kt w) (_hr:7 ∈ Region.ready md tO l) :
  ∃es,stepG Try.prog false (G (b.at ⟨T,ds⟩ (.inRegion tO (7 :: rest) :: kk)) cs) w=.go (G (b.at ⟨T.setIfInBounds 18 (tV fd q S bs bt kt g e l9 7),ds⟩ (.inRegion tO rest :: kk)) cs) w es∧∀e ∈ es,EvT fd q e:=by
 have n1:=h.done 1 (by omega) (aA _hr (by kernel_rfl))
 simp only[tV] at n1
 have n6:=h.done 6 (by omega) (aA _hr (by kernel_rfl))
 simp only[tV] at n6
 refine bG (o:=tO.getD 7 default) rfl rfl _hb rfl ?_ (fun x hx=>?_)
 ·simp[execOp,go_sem,tO,Try.f54,tV,n1,n6,_hg]
 ·simp[execOp,go_sem,tO,Try.f54,n1,n6] at hx
set_option maxRecDepth 100000 in
theorem zS (_hb:b.kind≠.early) (_hg:g=decide (bs<S)) (_he:e=decide (S=bs)) (_hl:l9=decide (kt<bt)) (h:TlI (tV fd q S bs bt kt g e l9) fd q l T) (_hw:TW3 fd q S bs bt kt w) (_hr:8 ∈ Region.ready md tO l) :
  ∃es,stepG Try.prog false (G (b.at ⟨T,ds⟩ (.inRegion tO (8 :: rest) :: kk)) cs) w=.go (G (b.at ⟨T.setIfInBounds 19 (tV fd q S bs bt kt g e l9 8),ds⟩ (.inRegion tO rest :: kk)) cs) w es∧∀e ∈ es,EvT fd q e:=by
 have n7:=h.done 7 (by omega) (aA _hr (by kernel_rfl))
 simp only[tV] at n7
 refine bG (o:=tO.getD 8 default) rfl rfl _hb rfl ?_ (fun x hx=>?_)
 ·simp[execOp,go_sem,tO,Try.f54,tV,n7]
 ·simp[execOp,go_sem,tO,Try.f54,n7] at hx
set_option maxRecDepth 100000 in
theorem zh (_hb:b.kind≠.early) (_hg:g=decide (bs<S)) (_he:e=decide (S=bs)) (_hl:l9=decide (kt<bt)) (h:TlI (tV fd q S bs bt kt g e l9) fd q l T) (_hw:TW3 fd q S bs bt kt w) (_hr:9 ∈ Region.ready md tO l) :
  ∃es,stepG Try.prog false (G (b.at ⟨T,ds⟩ (.inRegion tO (9 :: rest) :: kk)) cs) w=.go (G (b.at ⟨T.setIfInBounds 20 (tV fd q S bs bt kt g e l9 9),ds⟩ (.inRegion tO rest :: kk)) cs) w es∧∀e ∈ es,EvT fd q e:=by
 have ng:=h.done 8 (by omega) (aA _hr (by kernel_rfl))
 simp only[tV] at ng
 clear _hg _he _hl
 cases g with
 | true=>exact bO (o:=tO.getD 9 default) rfl (by rw[aH (j:=8) (d:=19) (want:=false) rfl rfl ng];rfl) rfl
 | false =>
  try simp only[Bool.false_eq_true,if_false] at *
  have z:=h.t3
  refine bG (o:=tO.getD 9 default) rfl (by rw[aH (j:=8) (d:=19) (want:=false) rfl rfl ng];rfl) _hb rfl ?_ (fun x hx=>?_)
  ·simp[execOp,go_sem,tO,Try.f54,tV,z]
  ·simp[execOp,go_sem,tO,Try.f54,z] at hx
set_option maxRecDepth 100000 in
theorem wT (_hb:b.kind≠.early) (_hg:g=decide (bs<S)) (_he:e=decide (S=bs)) (_hl:l9=decide (kt<bt)) (h:TlI (tV fd q S bs bt kt g e l9) fd q l T) (_hw:TW3 fd q S bs bt kt w) (_hr:10 ∈ Region.ready md tO l) :
  ∃es,stepG Try.prog false (G (b.at ⟨T,ds⟩ (.inRegion tO (10 :: rest) :: kk)) cs) w=.go (G (b.at ⟨T.setIfInBounds 21 (tV fd q S bs bt kt g e l9 10),ds⟩ (.inRegion tO rest :: kk)) cs) w es∧∀e ∈ es,EvT fd q e:=by
 have ng:=h.done 8 (by omega) (aA _hr (by kernel_rfl))
 simp only[tV] at ng
 have n9:=h.done 9 (by omega) (aA _hr (by kernel_rfl))
 simp only[tV] at n9
 clear _hg _he _hl
 cases g with
 | true=>exact bO (o:=tO.getD 10 default) rfl (by rw[aH (j:=8) (d:=19) (want:=false) rfl rfl ng];rfl) rfl
 | false =>
  try simp only[Bool.false_eq_true,if_false] at *
  have f:=_hw.s
  refine bG (o:=tO.getD 10 default) rfl (by rw[aH (j:=8) (d:=19) (want:=false) rfl rfl ng];rfl) _hb rfl ?_ (fun x hx=>?_)
  ·simp[execOp,go_sem,tO,Try.f54,tV,n9,f]
  ·simp[execOp,go_sem,tO,Try.f54,n9,f] at hx
   subst hx
   exact .inl ⟨_,rfl,rfl⟩
set_option maxRecDepth 100000 in
theorem wP (_hb:b.kind≠.early) (_hg:g=decide (bs<S)) (_he:e=decide (S=bs)) (_hl:l9=decide (kt<bt)) (h:TlI (tV fd q S bs bt kt g e l9) fd q l T) (_hw:TW3 fd q S bs bt kt w) (_hr:11 ∈ Region.ready md tO l) :
  ∃es,stepG Try.prog false (G (b.at ⟨T,ds⟩ (.inRegion tO (11 :: rest) :: kk)) cs) w=.go (G (b.at ⟨T.setIfInBounds 22 (tV fd q S bs bt kt g e l9 11),ds⟩ (.inRegion tO rest :: kk)) cs) w es∧∀e ∈ es,EvT fd q e:=by
 have ng:=h.done 8 (by omega) (aA _hr (by kernel_rfl))
 simp only[tV] at ng
 clear _hg _he _hl
 cases g with
 | true=>exact bO (o:=tO.getD 11 default) rfl (by rw[aH (j:=8) (d:=19) (want:=false) rfl rfl ng];rfl) rfl
 | false =>
  try simp only[Bool.false_eq_true,if_false] at *
  have z:=h.t0
  refine bG (o:=tO.getD 11 default) rfl (by rw[aH (j:=8) (d:=19) (want:=false) rfl rfl ng];rfl) _hb rfl ?_ (fun x hx=>?_)
  ·simp[execOp,go_sem,tO,Try.f54,tV,z]
  ·simp[execOp,go_sem,tO,Try.f54,z] at hx
set_option maxRecDepth 100000 in
theorem wW (_hb:b.kind≠.early) (_hg:g=decide (bs<S)) (_he:e=decide (S=bs)) (_hl:l9=decide (kt<bt)) (h:TlI (tV fd q S bs bt kt g e l9) fd q l T) (_hw:TW3 fd q S bs bt kt w) (_hr:12 ∈ Region.ready md tO l) :
  ∃es,stepG Try.prog false (G (b.at ⟨T,ds⟩ (.inRegion tO (12 :: rest) :: kk)) cs) w=.go (G (b.at ⟨T.setIfInBounds 23 (tV fd q S bs bt kt g e l9 12),ds⟩ (.inRegion tO rest :: kk)) cs) w es∧∀e ∈ es,EvT fd q e:=by
 have ng:=h.done 8 (by omega) (aA _hr (by kernel_rfl))
 simp only[tV] at ng
 have n11:=h.done 11 (by omega) (aA _hr (by kernel_rfl))
 simp only[tV] at n11
 clear _hg _he _hl
 cases g with
 | true=>exact bO (o:=tO.getD 12 default) rfl (by rw[aH (j:=8) (d:=19) (want:=false) rfl rfl ng];rfl) rfl
 | false =>
  try simp only[Bool.false_eq_true,if_false] at *
  refine bG (o:=tO.getD 12 default) rfl (by rw[aH (j:=8) (d:=19) (want:=false) rfl rfl ng];rfl) _hb rfl ?_ (fun x hx=>?_)
  ·simp[execOp,go_sem,tO,Try.f54,tV,n11]
  ·simp[execOp,go_sem,tO,Try.f54,n11] at hx
set_option maxRecDepth 100000 in
theorem yL (_hb:b.kind≠.early) (_hg:g=decide (bs<S)) (_he:e=decide (S=bs)) (_hl:l9=decide (kt<bt)) (h:TlI (tV fd q S bs bt kt g e l9) fd q l T) (_hw:TW3 fd q S bs bt kt w) (_hr:13 ∈ Region.ready md tO l) :
  ∃es,stepG Try.prog false (G (b.at ⟨T,ds⟩ (.inRegion tO (13 :: rest) :: kk)) cs) w=.go (G (b.at ⟨T.setIfInBounds 24 (tV fd q S bs bt kt g e l9 13),ds⟩ (.inRegion tO rest :: kk)) cs) w es∧∀e ∈ es,EvT fd q e:=by
 have ng:=h.done 8 (by omega) (aA _hr (by kernel_rfl))
 simp only[tV] at ng
 have n12:=h.done 12 (by omega) (aA _hr (by kernel_rfl))
 simp only[tV] at n12
 clear _hg _he _hl
 cases g with
 | true=>exact bO (o:=tO.getD 13 default) rfl (by rw[aH (j:=8) (d:=19) (want:=false) rfl rfl ng];rfl) rfl
 | false =>
  try simp only[Bool.false_eq_true,if_false] at *
  refine bG (o:=tO.getD 13 default) rfl (by rw[aH (j:=8) (d:=19) (want:=false) rfl rfl ng];rfl) _hb rfl ?_ (fun x hx=>?_)
  ·simp[execOp,go_sem,tO,Try.f54,tV,n12]
  ·simp[execOp,go_sem,tO,Try.f54,n12] at hx
end
end Cs
end Go.Proofs.Ytpdemelchhkfaaa
