import Derived.Test.YtpdemelchhkfaaaJn15
namespace Go.Proofs.Ytpdemelchhkfaaa
namespace Cs
open Go.Conc PK
section
variable {fd q:Nat} {S bs bt kt:Int} {g e l9:Bool} {md:Region.Mode} {l:Array Bool} {T:Array Value} {ds:List Deferred} {b:Frame} {rest:List Nat} {kk:List Item} {cs:List Frame} {w:World}
set_option maxRecDepth 100000 in
theorem xm (_hb:b.kind≠.early) (_hg:g=decide (bs<S)) (_he:e=decide (S=bs)) (_hl:l9=decide (kt<bt)) (h:TlI (tV fd q S bs bt kt g e l9) fd q l T) (_hw:TW3 fd q S bs bt kt w) (_hr:14 ∈ Region.ready md tO l) :
  ∃es,stepG Try.prog false (G (b.at ⟨T,ds⟩ (.inRegion tO (14 :: rest) :: kk)) cs) w=.go (G (b.at ⟨T.setIfInBounds 25 (tV fd q S bs bt kt g e l9 14),ds⟩ (.inRegion tO rest :: kk)) cs) w es∧∀e ∈ es,EvT fd q e:=by
 have ng:=h.done 8 (by omega) (aA _hr (by kernel_rfl))
 simp only[tV] at ng
 have n13:=h.done 13 (by omega) (aA _hr (by kernel_rfl))
 simp only[tV] at n13
 clear _hg _he _hl
 cases g with
 | true=>exact bO (o:=tO.getD 14 default) rfl (by rw[aH (j:=8) (d:=19) (want:=false) rfl rfl ng];rfl) rfl
 | false =>
  try simp only[Bool.false_eq_true,if_false] at *
  refine bG (o:=tO.getD 14 default) rfl (by rw[aH (j:=8) (d:=19) (want:=false) rfl rfl ng];rfl) _hb rfl ?_ (fun x hx=>?_)
  ·simp[execOp,go_sem,tO,Try.f54,tV,n13]
  ·simp[execOp,go_sem,tO,Try.f54,n13] at hx
set_option maxRecDepth 100000 in
theorem wI (_hb:b.kind≠.early) (_hg:g=decide (bs<S)) (_he:e=decide (S=bs)) (_hl:l9=decide (kt<bt)) (h:TlI (tV fd q S bs bt kt g e l9) fd q l T) (_hw:TW3 fd q S bs bt kt w) (_hr:15 ∈ Region.ready md tO l) :
  ∃es,stepG Try.prog false (G (b.at ⟨T,ds⟩ (.inRegion tO (15 :: rest) :: kk)) cs) w=.go (G (b.at ⟨T.setIfInBounds 26 (tV fd q S bs bt kt g e l9 15),ds⟩ (.inRegion tO rest :: kk)) cs) w es∧∀e ∈ es,EvT fd q e:=by
 have ng:=h.done 8 (by omega) (aA _hr (by kernel_rfl))
 simp only[tV] at ng
 have n14:=h.done 14 (by omega) (aA _hr (by kernel_rfl))
 simp only[tV] at n14
 clear _hg _he _hl
 cases g with
 | true=>exact bO (o:=tO.getD 15 default) rfl (by rw[aH (j:=8) (d:=19) (want:=false) rfl rfl ng];rfl) rfl
 | false =>
  try simp only[Bool.false_eq_true,if_false] at *
  have f:=_hw.bs
  refine bG (o:=tO.getD 15 default) rfl (by rw[aH (j:=8) (d:=19) (want:=false) rfl rfl ng];rfl) _hb rfl ?_ (fun x hx=>?_)
  ·simp[execOp,go_sem,tO,Try.f54,tV,n14,f]
  ·simp[execOp,go_sem,tO,Try.f54,n14,f] at hx
   subst hx
   exact .inr ⟨_,by decide,rfl⟩
set_option maxRecDepth 100000 in
theorem xY (_hb:b.kind≠.early) (_hg:g=decide (bs<S)) (_he:e=decide (S=bs)) (_hl:l9=decide (kt<bt)) (h:TlI (tV fd q S bs bt kt g e l9) fd q l T) (_hw:TW3 fd q S bs bt kt w) (_hr:16 ∈ Region.ready md tO l) :
  ∃es,stepG Try.prog false (G (b.at ⟨T,ds⟩ (.inRegion tO (16 :: rest) :: kk)) cs) w=.go (G (b.at ⟨T.setIfInBounds 27 (tV fd q S bs bt kt g e l9 16),ds⟩ (.inRegion tO rest :: kk)) cs) w es∧∀e ∈ es,EvT fd q e:=by
 have ng:=h.done 8 (by omega) (aA _hr (by kernel_rfl))
 simp only[tV] at ng
 have n10:=h.done 10 (by omega) (aA _hr (by kernel_rfl))
 simp only[tV] at n10
 have n15:=h.done 15 (by omega) (aA _hr (by kernel_rfl))
 simp only[tV] at n15
 clear _hg _hl
 cases g with
 | true=>exact bO (o:=tO.getD 16 default) rfl (by rw[aH (j:=8) (d:=19) (want:=false) rfl rfl ng];rfl) rfl
 | false =>
  try simp only[Bool.false_eq_true,if_false] at *
  have hbe:(S==bs)=decide (S=bs):=by rw[Bool.eq_iff_iff];simp
  refine bG (o:=tO.getD 16 default) rfl (by rw[aH (j:=8) (d:=19) (want:=false) rfl rfl ng];rfl) _hb rfl ?_ (fun x hx=>?_)
  ·simp[execOp,go_sem,tO,Try.f54,tV,n10,n15,_he,hbe]
  ·simp[execOp,go_sem,tO,Try.f54,n10,n15] at hx
set_option maxRecDepth 100000 in
theorem wh (_hb:b.kind≠.early) (_hg:g=decide (bs<S)) (_he:e=decide (S=bs)) (_hl:l9=decide (kt<bt)) (h:TlI (tV fd q S bs bt kt g e l9) fd q l T) (_hw:TW3 fd q S bs bt kt w) (_hr:17 ∈ Region.ready md tO l) :
  ∃es,stepG Try.prog false (G (b.at ⟨T,ds⟩ (.inRegion tO (17 :: rest) :: kk)) cs) w=.go (G (b.at ⟨T.setIfInBounds 28 (tV fd q S bs bt kt g e l9 17),ds⟩ (.inRegion tO rest :: kk)) cs) w es∧∀e ∈ es,EvT fd q e:=by
 have ng:=h.done 8 (by omega) (aA _hr (by kernel_rfl))
 simp only[tV] at ng
 have n16:=h.done 16 (by omega) (aA _hr (by kernel_rfl))
 simp only[tV] at n16
 clear _hg _he _hl
 cases g with
 | true=>exact bO (o:=tO.getD 17 default) rfl (by rw[aH (j:=8) (d:=19) (want:=false) rfl rfl ng];rfl) rfl
 | false =>
  try simp only[Bool.false_eq_true,if_false] at *
  refine bG (o:=tO.getD 17 default) rfl (by rw[aH (j:=8) (d:=19) (want:=false) rfl rfl ng];rfl) _hb rfl ?_ (fun x hx=>?_)
  ·simp[execOp,go_sem,tO,Try.f54,tV,n16]
  ·simp[execOp,go_sem,tO,Try.f54,n16] at hx
set_option maxRecDepth 100000 in
theorem yC (_hb:b.kind≠.early) (_hg:g=decide (bs<S)) (_he:e=decide (S=bs)) (_hl:l9=decide (kt<bt)) (h:TlI (tV fd q S bs bt kt g e l9) fd q l T) (_hw:TW3 fd q S bs bt kt w) (_hr:18 ∈ Region.ready md tO l) :
  ∃es,stepG Try.prog false (G (b.at ⟨T,ds⟩ (.inRegion tO (18 :: rest) :: kk)) cs) w=.go (G (b.at ⟨T.setIfInBounds 29 (tV fd q S bs bt kt g e l9 18),ds⟩ (.inRegion tO rest :: kk)) cs) w es∧∀e ∈ es,EvT fd q e:=by
 have ng:=h.done 17 (by omega) (aA _hr (by kernel_rfl))
 simp only[tV] at ng
 clear _hg _he _hl
 cases g with
 | true=>exact bO (o:=tO.getD 18 default) rfl (by rw[aH (j:=17) (d:=28) (want:=true) rfl rfl ng];rfl) rfl
 | false =>
  cases e with
  | false=>exact bO (o:=tO.getD 18 default) rfl (by rw[aH (j:=17) (d:=28) (want:=true) rfl rfl ng];rfl) rfl
  | true =>
   try simp only[Bool.false_eq_true,if_false] at *
   try simp only[if_true] at *
   have z:=h.t3
   refine bG (o:=tO.getD 18 default) rfl (by rw[aH (j:=17) (d:=28) (want:=true) rfl rfl ng];rfl) _hb rfl ?_ (fun x hx=>?_)
   ·simp[execOp,go_sem,tO,Try.f54,tV,z]
   ·simp[execOp,go_sem,tO,Try.f54,z] at hx
set_option maxRecDepth 100000 in
theorem xw (_hb:b.kind≠.early) (_hg:g=decide (bs<S)) (_he:e=decide (S=bs)) (_hl:l9=decide (kt<bt)) (h:TlI (tV fd q S bs bt kt g e l9) fd q l T) (_hw:TW3 fd q S bs bt kt w) (_hr:19 ∈ Region.ready md tO l) :
  ∃es,stepG Try.prog false (G (b.at ⟨T,ds⟩ (.inRegion tO (19 :: rest) :: kk)) cs) w=.go (G (b.at ⟨T.setIfInBounds 30 (tV fd q S bs bt kt g e l9 19),ds⟩ (.inRegion tO rest :: kk)) cs) w es∧∀e ∈ es,EvT fd q e:=by
 have ng:=h.done 17 (by omega) (aA _hr (by kernel_rfl))
 simp only[tV] at ng
 have n18:=h.done 18 (by omega) (aA _hr (by kernel_rfl))
 simp only[tV] at n18
 clear _hg _he _hl
 cases g with
 | true=>exact bO (o:=tO.getD 19 default) rfl (by rw[aH (j:=17) (d:=28) (want:=true) rfl rfl ng];rfl) rfl
 | false =>
  cases e with
  | false=>exact bO (o:=tO.getD 19 default) rfl (by rw[aH (j:=17) (d:=28) (want:=true) rfl rfl ng];rfl) rfl
  | true =>
   try simp only[Bool.false_eq_true,if_false] at *
   try simp only[if_true] at *
   have f:=_hw.k
   refine bG (o:=tO.getD 19 default) rfl (by rw[aH (j:=17) (d:=28) (want:=true) rfl rfl ng];rfl) _hb rfl ?_ (fun x hx=>?_)
   ·simp[execOp,go_sem,tO,Try.f54,tV,n18,f]
   ·simp[execOp,go_sem,tO,Try.f54,n18,f] at hx
    subst hx
    exact .inl ⟨_,rfl,rfl⟩
set_option maxRecDepth 100000 in
theorem yD (_hb:b.kind≠.early) (_hg:g=decide (bs<S)) (_he:e=decide (S=bs)) (_hl:l9=decide (kt<bt)) (h:TlI (tV fd q S bs bt kt g e l9) fd q l T) (_hw:TW3 fd q S bs bt kt w) (_hr:20 ∈ Region.ready md tO l) :
  ∃es,stepG Try.prog false (G (b.at ⟨T,ds⟩ (.inRegion tO (20 :: rest) :: kk)) cs) w=.go (G (b.at ⟨T.setIfInBounds 31 (tV fd q S bs bt kt g e l9 20),ds⟩ (.inRegion tO rest :: kk)) cs) w es∧∀e ∈ es,EvT fd q e:=by
 have ng:=h.done 17 (by omega) (aA _hr (by kernel_rfl))
 simp only[tV] at ng
 clear _hg _he _hl
 cases g with
 | true=>exact bO (o:=tO.getD 20 default) rfl (by rw[aH (j:=17) (d:=28) (want:=true) rfl rfl ng];rfl) rfl
 | false =>
  cases e with
  | false=>exact bO (o:=tO.getD 20 default) rfl (by rw[aH (j:=17) (d:=28) (want:=true) rfl rfl ng];rfl) rfl
  | true =>
   try simp only[Bool.false_eq_true,if_false] at *
   try simp only[if_true] at *
   have z:=h.t0
   refine bG (o:=tO.getD 20 default) rfl (by rw[aH (j:=17) (d:=28) (want:=true) rfl rfl ng];rfl) _hb rfl ?_ (fun x hx=>?_)
   ·simp[execOp,go_sem,tO,Try.f54,tV,z]
   ·simp[execOp,go_sem,tO,Try.f54,z] at hx
set_option maxRecDepth 100000 in
theorem wj (_hb:b.kind≠.early) (_hg:g=decide (bs<S)) (_he:e=decide (S=bs)) (_hl:l9=decide (kt<bt)) (h:TlI (tV fd q S bs bt kt g e l9) fd q l T) (_hw:TW3 fd q S bs bt kt w) (_hr:21 ∈ Region.ready md tO l) :
  ∃es,stepG Try.prog false (G (b.at ⟨T,ds⟩ (.inRegion tO (21 :: rest) :: kk)) cs) w=.go (G (b.at ⟨T.setIfInBounds 32 (tV fd q S bs bt kt g e l9 21),ds⟩ (.inRegion tO rest :: kk)) cs) w es∧∀e ∈ es,EvT fd q e:=by
 have ng:=h.done 17 (by omega) (aA _hr (by kernel_rfl))
 simp only[tV] at ng
 have n20:=h.done 20 (by omega) (aA _hr (by kernel_rfl))
 simp only[tV] at n20
 clear _hg _he _hl
 cases g with
 | true=>exact bO (o:=tO.getD 21 default) rfl (by rw[aH (j:=17) (d:=28) (want:=true) rfl rfl ng];rfl) rfl
 | false =>
  cases e with
  | false=>exact bO (o:=tO.getD 21 default) rfl (by rw[aH (j:=17) (d:=28) (want:=true) rfl rfl ng];rfl) rfl
  | true =>
   try simp only[Bool.false_eq_true,if_false] at *
   try simp only[if_true] at *
   refine bG (o:=tO.getD 21 default) rfl (by rw[aH (j:=17) (d:=28) (want:=true) rfl rfl ng];rfl) _hb rfl ?_ (fun x hx=>?_)
   ·simp[execOp,go_sem,tO,Try.f54,tV,n20]
   ·simp[execOp,go_sem,tO,Try.f54,n20] at hx
set_option maxRecDepth 100000 in
theorem xk (_hb:b.kind≠.early) (_hg:g=decide (bs<S)) (_he:e=decide (S=bs)) (_hl:l9=decide (kt<bt)) (h:TlI (tV fd q S bs bt kt g e l9) fd q l T) (_hw:TW3 fd q S bs bt kt w) (_hr:22 ∈ Region.ready md tO l) :
  ∃es,stepG Try.prog false (G (b.at ⟨T,ds⟩ (.inRegion tO (22 :: rest) :: kk)) cs) w=.go (G (b.at ⟨T.setIfInBounds 33 (tV fd q S bs bt kt g e l9 22),ds⟩ (.inRegion tO rest :: kk)) cs) w es∧∀e ∈ es,EvT fd q e:=by
 have ng:=h.done 17 (by omega) (aA _hr (by kernel_rfl))
 simp only[tV] at ng
 have n21:=h.done 21 (by omega) (aA _hr (by kernel_rfl))
 simp only[tV] at n21
 clear _hg _he _hl
 cases g with
 | true=>exact bO (o:=tO.getD 22 default) rfl (by rw[aH (j:=17) (d:=28) (want:=true) rfl rfl ng];rfl) rfl
 | false =>
  cases e with
  | false=>exact bO (o:=tO.getD 22 default) rfl (by rw[aH (j:=17) (d:=28) (want:=true) rfl rfl ng];rfl) rfl
  | true =>
   try simp only[Bool.false_eq_true,if_false] at *
   try simp only[if_true] at *
   refine bG (o:=tO.getD 22 default) rfl (by rw[aH (j:=17) (d:=28) (want:=true) rfl rfl ng];rfl) _hb rfl ?_ (fun x hx=>?_)
   ·simp[execOp,go_sem,tO,Try.f54,tV,n21]
   ·simp[execOp,go_sem,tO,Try.f54,n21] at hx
set_option maxRecDepth 100000 in
theorem xS (_hb:b.kind≠.early) (_hg:g=decide (bs<S)) (_he:e=decide (S=bs)) (_hl:l9=decide (kt<bt)) (h:TlI (tV fd q S bs bt kt g e l9) fd q l T) (_hw:TW3 fd q S bs bt kt w) (_hr:23 ∈ Region.ready md tO l) :
  ∃es,stepG Try.prog false (G (b.at ⟨T,ds⟩ (.inRegion tO (23 :: rest) :: kk)) cs) w=.go (G (b.at ⟨T.setIfInBounds 34 (tV fd q S bs bt kt g e l9 23),ds⟩ (.inRegion tO rest :: kk)) cs) w es∧∀e ∈ es,EvT fd q e:=by
 have ng:=h.done 17 (by omega) (aA _hr (by kernel_rfl))
 simp only[tV] at ng
 have n22:=h.done 22 (by omega) (aA _hr (by kernel_rfl))
 simp only[tV] at n22
 clear _hg _he _hl
 cases g with
 | true=>exact bO (o:=tO.getD 23 default) rfl (by rw[aH (j:=17) (d:=28) (want:=true) rfl rfl ng];rfl) rfl
 | false =>
  cases e with
  | false=>exact bO (o:=tO.getD 23 default) rfl (by rw[aH (j:=17) (d:=28) (want:=true) rfl rfl ng];rfl) rfl
  | true =>
   try simp only[Bool.false_eq_true,if_false] at *
   try simp only[if_true] at *
   refine bG (o:=tO.getD 23 default) rfl (by rw[aH (j:=17) (d:=28) (want:=true) rfl rfl ng];rfl) _hb rfl ?_ (fun x hx=>?_)
   ·simp[execOp,go_sem,tO,Try.f54,tV,n22]
   ·simp[execOp,go_sem,tO,Try.f54,n22] at hx
set_option maxRecDepth 100000 in
theorem wz (_hb:b.kind≠.early) (_hg:g=decide (bs<S)) (_he:e=decide (S=bs)) (_hl:l9=decide (kt<bt)) (h:TlI (tV fd q S bs bt kt g e l9) fd q l T) (_hw:TW3 fd q S bs bt kt w) (_hr:24 ∈ Region.ready md tO l) :
  ∃es,stepG Try.prog false (G (b.at ⟨T,ds⟩ (.inRegion tO (24 :: rest) :: kk)) cs) w=.go (G (b.at ⟨T.setIfInBounds 35 (tV fd q S bs bt kt g e l9 24),ds⟩ (.inRegion tO rest :: kk)) cs) w es∧∀e ∈ es,EvT fd q e:=by
 have ng:=h.done 17 (by omega) (aA _hr (by kernel_rfl))
 simp only[tV] at ng
 have n23:=h.done 23 (by omega) (aA _hr (by kernel_rfl))
 simp only[tV] at n23
 clear _hg _he _hl
 cases g with
 | true=>exact bO (o:=tO.getD 24 default) rfl (by rw[aH (j:=17) (d:=28) (want:=true) rfl rfl ng];rfl) rfl
 | false =>
  cases e with
  | false=>exact bO (o:=tO.getD 24 default) rfl (by rw[aH (j:=17) (d:=28) (want:=true) rfl rfl ng];rfl) rfl
  | true =>
   try simp only[Bool.false_eq_true,if_false] at *
   try simp only[if_true] at *
   have f:=_hw.bt
   refine bG (o:=tO.getD 24 default) rfl (by rw[aH (j:=17) (d:=28) (want:=true) rfl rfl ng];rfl) _hb rfl ?_ (fun x hx=>?_)
   ·simp[execOp,go_sem,tO,Try.f54,tV,n23,f]
   ·simp[execOp,go_sem,tO,Try.f54,n23,f] at hx
    subst hx
    exact .inr ⟨_,by decide,rfl⟩
set_option maxRecDepth 100000 in
theorem wE (_hb:b.kind≠.early) (_hg:g=decide (bs<S)) (_he:e=decide (S=bs)) (_hl:l9=decide (kt<bt)) (h:TlI (tV fd q S bs bt kt g e l9) fd q l T) (_hw:TW3 fd q S bs bt kt w) (_hr:25 ∈ Region.ready md tO l) :
  ∃es,stepG Try.prog false (G (b.at ⟨T,ds⟩ (.inRegion tO (25 :: rest) :: kk)) cs) w=.go (G (b.at ⟨T.setIfInBounds 36 (tV fd q S bs bt kt g e l9 25),ds⟩ (.inRegion tO rest :: kk)) cs) w es∧∀e ∈ es,EvT fd q e:=by
 have ng:=h.done 17 (by omega) (aA _hr (by kernel_rfl))
 simp only[tV] at ng
 have n19:=h.done 19 (by omega) (aA _hr (by kernel_rfl))
 simp only[tV] at n19
 have n24:=h.done 24 (by omega) (aA _hr (by kernel_rfl))
 simp only[tV] at n24
 clear _hg _he
 cases g with
 | true=>exact bO (o:=tO.getD 25 default) rfl (by rw[aH (j:=17) (d:=28) (want:=true) rfl rfl ng];rfl) rfl
 | false =>
  cases e with
  | false=>exact bO (o:=tO.getD 25 default) rfl (by rw[aH (j:=17) (d:=28) (want:=true) rfl rfl ng];rfl) rfl
  | true =>
   try simp only[Bool.false_eq_true,if_false] at *
   try simp only[if_true] at *
   refine bG (o:=tO.getD 25 default) rfl (by rw[aH (j:=17) (d:=28) (want:=true) rfl rfl ng];rfl) _hb rfl ?_ (fun x hx=>?_)
   ·simp[execOp,go_sem,tO,Try.f54,tV,n19,n24,_hl]
   ·simp[execOp,go_sem,tO,Try.f54,n19,n24] at hx
set_option maxRecDepth 100000 in
theorem xd (_hb:b.kind≠.early) (_hg:g=decide (bs<S)) (_he:e=decide (S=bs)) (_hl:l9=decide (kt<bt)) (h:TlI (tV fd q S bs bt kt g e l9) fd q l T) (_hw:TW3 fd q S bs bt kt w) (_hr:26 ∈ Region.ready md tO l) :
  ∃es,stepG Try.prog false (G (b.at ⟨T,ds⟩ (.inRegion tO (26 :: rest) :: kk)) cs) w=.go (G (b.at ⟨T.setIfInBounds 37 (tV fd q S bs bt kt g e l9 26),ds⟩ (.inRegion tO rest :: kk)) cs) w es∧∀e ∈ es,EvT fd q e:=by
 have ng:=h.done 8 (by omega) (aA _hr (by kernel_rfl))
 simp only[tV] at ng
 have n17:=h.done 17 (by omega) (aA _hr (by kernel_rfl))
 simp only[tV] at n17
 have n36:g=false→e=true→T[36]? = some (.bool l9):=fun hg0 he0=>by
  have:=h.done 25 (by omega) (aA _hr (by kernel_rfl))
  simp only[tV,hg0,he0] at this
  simpa using this
 clear _hg _he _hl
 cases g with
 | true=>exact bO (o:=tO.getD 26 default) rfl (by rw[aH (j:=8) (d:=19) (want:=false) rfl rfl ng];rfl) rfl
 | false =>
  have n36:=n36 rfl
  try simp only[Bool.false_eq_true,if_false] at *
  cases e with
  | true =>
   have n36:T[36]? = some (.bool l9):=by simpa using n36
   refine bG (o:=tO.getD 26 default) rfl (by rw[aH (j:=8) (d:=19) (want:=false) rfl rfl ng];rfl) _hb rfl ?_ (fun x hx=>?_)
   ·simp[execOp,go_sem,tO,Try.f54,tV,n17,n36]
   ·simp[execOp,go_sem,tO,Try.f54,n17,n36] at hx
  | false =>
   clear n36
   refine bG (o:=tO.getD 26 default) rfl (by rw[aH (j:=8) (d:=19) (want:=false) rfl rfl ng];rfl) _hb rfl ?_ (fun x hx=>?_)
   ·simp[execOp,go_sem,tO,Try.f54,tV,n17]
   ·simp[execOp,go_sem,tO,Try.f54,n17] at hx
set_option maxRecDepth 100000 in
theorem xK (_hb:b.kind≠.early) (_hg:g=decide (bs<S)) (_he:e=decide (S=bs)) (_hl:l9=decide (kt<bt)) (h:TlI (tV fd q S bs bt kt g e l9) fd q l T) (_hw:TW3 fd q S bs bt kt w) (_hr:27 ∈ Region.ready md tO l) :
  ∃es,stepG Try.prog false (G (b.at ⟨T,ds⟩ (.inRegion tO (27 :: rest) :: kk)) cs) w=.go (G (b.at ⟨T.setIfInBounds 38 (tV fd q S bs bt kt g e l9 27),ds⟩ (.inRegion tO rest :: kk)) cs) w es∧∀e ∈ es,EvT fd q e:=by
 have n8:=h.done 8 (by omega) (aA _hr (by kernel_rfl))
 simp only[tV] at n8
 have n26:g=false→T[37]? = some (.bool (e && l9)):=fun hg0=>by
  have:=h.done 26 (by omega) (aA _hr (by kernel_rfl))
  simp only[tV,hg0] at this
  simpa using this
 clear _hg _he _hl
 rcases g with _ | _
 ·have n26:=n26 rfl
  refine bG (o:=tO.getD 27 default) rfl rfl _hb rfl ?_ (fun x hx=>?_)
  ·simp[execOp,go_sem,tO,Try.f54,tV,n8,n26]
  ·simp[execOp,go_sem,tO,Try.f54,n8,n26] at hx
 ·clear n26
  refine bG (o:=tO.getD 27 default) rfl rfl _hb rfl ?_ (fun x hx=>?_)
  ·simp[execOp,go_sem,tO,Try.f54,tV,n8]
  ·simp[execOp,go_sem,tO,Try.f54,n8] at hx
end
end Cs
end Go.Proofs.Ytpdemelchhkfaaa
