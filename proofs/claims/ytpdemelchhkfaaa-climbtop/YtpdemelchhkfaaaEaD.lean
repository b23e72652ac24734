import Derived.Test.YtpdemelchhkfaaaJn28
namespace Go.Proofs.Ytpdemelchhkfaaa
namespace Cs
open Go.Conc Go.RowKit PK
section
variable {P:Program} {E:Env} {wl w:World}
theorem yb (h:WR P E wl w) {b q s:Nat} {o:Bool} {x:Array Value} {T:TypeId} (hx:wl.heap[b]? = some (.cells x T (0,0))) (hT:(P.info? T).isSome=true) (e:E b=some (q,s,o)):o=true∧s=0∧∃y,w.heap[q]? = some (.cells y T (0,0))∧LR E x y:=by
 cases o with
 | false =>
  obtain ⟨x',T',y,T2,fr,h1,h2,_⟩:=h.shared b q s e
  rw[hx] at h1
  injection h1 with h1
  injection h1 with _ e2
  rw[←e2] at h2
  rw[h2] at hT
  cases hT
 | true =>
  obtain ⟨h1,ol,o,h2,h3,h4⟩:=h.own b q s e
  rw[hx] at h2
  injection h2 with h2
  subst h2
  cases h4 with
  | cells T fr h=>exact ⟨rfl,h1,_,h3,h⟩
theorem tY {n:Nat} {f:Nat→Int} {y:Array Value} (h:LR E (ints n f) y):y=ints n f:=by
 refine Array.ext (by rw[←h.size]) fun i h1 h2=>?_
 have hi:i<n:=by rwa [af] at h2
 have:=h.at_ i _ y[i] (aI f hi) (Array.getElem?_eq_getElem h1)
 have e2:(ints n f)[i]=.int .i64 (f i):=by
  have:=aI f hi
  rw[Array.getElem?_eq_getElem h2] at this
  exact Option.some.inj this
 rw[e2]
 revert this
 generalize y[i]=z
 intro k
 cases k
 rfl
theorem jT (h:WR P E wl w) {g n cap:Nat} {x:Array Value} {T:TypeId} (hx:wl.heap[g]? = some (.cells x T (0,0))) (hT:(P.info? T).isSome=true) {u:Value} (hu:VR E (.slice (some ⟨g,0,none⟩) n cap) u):∃a,u=.slice a n cap∧(0<cap→∃q y,a=some ⟨q,0,none⟩∧E g=some (q,0,true)∧w.heap[q]? = some (.cells y T (0,0))∧LR E x y):=by
 cases hu with
 | bP a b=>exact ⟨_,rfl,fun e=>absurd e (Nat.lt_irrefl _)⟩
 | slice l c ha =>
  rename_i b
  obtain ⟨q,o2,sp⟩:=b
  obtain ⟨s,o,e1,e2,e3,_⟩:=ha
  dsimp only at e1 e2 e3
  obtain ⟨rfl,rfl,y,k1,k2⟩:=yb h hx hT e1
  subst e2 e3
  exact ⟨_,rfl,fun _=>⟨q,y,rfl,e1,k1,k2⟩⟩
theorem jA (h:WR P E wl w) {g:Nat} {x:Array Value} {T:TypeId} (hx:wl.heap[g]? = some (.cells x T (0,0))) (hT:(P.info? T).isSome=true) {u:Value} (hu:VR E (.pointer (some ⟨g,0,none⟩)) u):∃q y,u=.pointer (some ⟨q,0,none⟩)∧E g=some (q,0,true)∧w.heap[q]? = some (.cells y T (0,0))∧LR E x y:=by
 cases hu with
 | ptr ha =>
  rename_i b
  obtain ⟨q,o2,sp⟩:=b
  obtain ⟨s,o,e1,e2,e3,_⟩:=ha
  dsimp only at e1 e2 e3
  obtain ⟨rfl,rfl,y,k1,k2⟩:=yb h hx hT e1
  subst e2 e3
  exact ⟨q,y,rfl,e1,k1,k2⟩
end
theorem A6 [Fns] {E:Env} {n:Nat} {f:Nat→Int} {d:Int} {u:Value} (h:VR E (.tuple #[.agg (ints n f),.int .i64 d]) u):u=.tuple #[.agg (ints n f),.int .i64 d]:=by
 have int:∀{k:Int} {z:Value},VR E (.int .i64 k) z→z=.int .i64 k:=fun h=>by cases h;rfl
 cases h with
 | tuple hs hv =>
  rename_i y
  have h0:0<y.size:=by rw[←hs];exact Nat.zero_lt_two
  have h1:1<y.size:=by rw[←hs];exact Nat.one_lt_two
  have k0:=uj (hv 0 _ _ rfl (Array.getElem?_eq_getElem h0))
  have k1:=int (hv 1 _ _ rfl (Array.getElem?_eq_getElem h1))
  congr 1
  refine Array.ext (by rw[←hs]) fun i h2 h3=>?_
  have h4:i=0∨i=1:=by simp at h3;omega
  rcases h4 with rfl | rfl
  ·exact k0
  ·exact k1
theorem wJ [Fns] {E:Env} {a:Addr} {n c:Nat} {u u':Value} (hn:0<n) (h:VR E (.slice (some a) n c) u) (h':VR E (.slice (some a) n c) u'):u=u':=by
 cases h with
 | bP a b=>exact absurd hn (Nat.lt_irrefl _)
 | slice l c ha =>
  cases h' with
  | bP a b=>exact absurd hn (Nat.lt_irrefl _)
  | slice l c hb =>
   rename_i b b'
   obtain ⟨b1,b2,b3⟩:=b
   obtain ⟨d1,d2,d3⟩:=b'
   obtain ⟨s,o,e1,e2,e3,_⟩:=ha
   obtain ⟨s',o',f1,f2,f3,_⟩:=hb
   dsimp only at e1 e2 e3 f1 f2 f3
   rw[e1] at f1
   cases f1
   subst e2 e3 f2 f3
   rfl
set_option maxRecDepth 100000 in
set_option maxHeartbeats 4000000 in
theorem qi (s:ByteArray) (v:Value) (n seed:Nat) (tries ah:Int) (f:Nat→Int) (hE:ceE s.data.toList n f tries ah≠0) (W0 W:World) (hv:aY W0 v n f) (rv:Rt W0 v) (hag:∀b,b<W0.heap.size→W.heap[b]? = W0.heap[b]?) {Sn:Nat→Prop} (hS:∀b,Sn b→W0.heap.size≤b∧b<W.heap.size) (cal:Frame) (rest:List Frame) {gs:Array Goroutine} {t:Trace} {qq:Nat→Nat} (i0:gs[0]? = some (G (mkF 13 #[.string s,v,.int .u64 (seed:Nat),.int .i64 tries,.int .i64 ah,undef,undef,undef,undef,undef,undef,undef,undef,undef,undef,undef,undef,undef,undef,undef,undef,undef,undef,undef,undef,undef,undef,undef,undef,undef,undef,undef,undef,undef,undef,undef,undef,undef,undef,undef,undef,undef,undef] [.code dr] .run) (cal :: rest))) (hq:Qs Try.prog Sn gs t qq 0 W.heap.size) (sl:Option (Nat × Nat)) :
  ∃N gs' w' sl' t' q',runNT Try.prog N (crowd gs W sl) t=(.next (crowd gs' w' sl'),t')∧gs'.size=gs.size∧gs'[0]? = some (G (cal.finish (.tuple #[.agg (ints 28 fun _=>0),.int .i64 (ceE s.data.toList n f tries ah)])) rest)∧(∀b,b<W.heap.size→w'.heap[b]? = W.heap[b]?)∧w'.os=W.os∧w'.output=W.output∧W.heap.size≤w'.heap.size∧Qs Try.prog Sn gs' t' q' 0 w'.heap.size:=by
 obtain ⟨av,cv,rfl,nv,kv⟩:=hv
 have hn0:∀b q s,(fun _=>none:Env) b≠some (q,s,true):=fun b q s e=>by cases e
 obtain ⟨E1,wl1,av',c1,s1,b1,e1,r1,k1⟩:=fR (P:=Try.prog) (w:=W0) (Cp.nil W0).cq hn0 dG (f:=fun i=>.int .i64 (f i)) (fun i E=>.int _ _) kv rv
 have low:∀b q s o,E1 b=some (q,s,o)→o=false∧q<W0.heap.size:=fun b q s o e=>by
  refine ⟨?_,?_⟩
  ·cases o with
   | false=>rfl
   | true=>exact absurd e (s1 b q s)
  ·rcases b1 b q s o e with e | e
   ·cases e
   ·exact e
 have hwr:WR Try.prog E1 wl1 W:=iH c1.wr fun b x e=>by
  obtain ⟨q,s,o⟩:=x
  exact hag q (low b q s o e).2
 have hin:=cw.start (c:=cal :: rest) (Post:=fun u _=>u=.tuple #[.agg (ints 28 fun _=>0),.int .i64 (ceE s.data.toList n f tries ah)]) (P:=Try.prog) (E:=E1) (wl:=wl1) (w:=W) ⟨_,Try.func13⟩ (x:=#[.string s,.slice av' n cv,.int .u64 (seed:Nat),.int .i64 tries,.int .i64 ah,undef,undef,undef,undef,undef,undef,undef,undef,undef,undef,undef,undef,undef,undef,undef,undef,undef,undef,undef,undef,undef,undef,undef,undef,undef,undef,undef,undef,undef,undef,undef,undef,undef,undef,undef,undef,undef,undef]) (y:=#[.string s,.slice av n cv,.int .u64 (seed:Nat),.int .i64 tries,.int .i64 ah,undef,undef,undef,undef,undef,undef,undef,undef,undef,undef,undef,undef,undef,undef,undef,undef,undef,undef,undef,undef,undef,undef,undef,undef,undef,undef,undef,undef,undef,undef,undef,undef,undef,undef,undef,undef,undef,undef]) (ak (.string _) (ak r1 (ak (.int _ _) (ak (.int _ _) (ak (.int _ _) (ak (.mkTuple (LR.nil _)) (ak (.mkTuple (LR.nil _)) (ak (.mkTuple (LR.nil _)) (ak (.mkTuple (LR.nil _)) (ak (.mkTuple (LR.nil _)) (ak (.mkTuple (LR.nil _)) (ak (.mkTuple (LR.nil _)) (ak (.mkTuple (LR.nil _)) (ak (.mkTuple (LR.nil _)) (ak (.mkTuple (LR.nil _)) (ak (.mkTuple (LR.nil _)) (ak (.mkTuple (LR.nil _)) (ak (.mkTuple (LR.nil _)) (ak (.mkTuple (LR.nil _)) (ak (.mkTuple (LR.nil _)) (ak (.mkTuple (LR.nil _)) (ak (.mkTuple (LR.nil _)) (ak (.mkTuple (LR.nil _)) (ak (.mkTuple (LR.nil _)) (ak (.mkTuple (LR.nil _)) (ak (.mkTuple (LR.nil _)) (ak (.mkTuple (LR.nil _)) (ak (.mkTuple (LR.nil _)) (ak (.mkTuple (LR.nil _)) (ak (.mkTuple (LR.nil _)) (ak (.mkTuple (LR.nil _)) (ak (.mkTuple (LR.nil _)) (ak (.mkTuple (LR.nil _)) (ak (.mkTuple (LR.nil _)) (ak (.mkTuple (LR.nil _)) (ak (.mkTuple (LR.nil _)) (ak (.mkTuple (LR.nil _)) (ak (.mkTuple (LR.nil _)) (ak (.mkTuple (LR.nil _)) (ak (.mkTuple (LR.nil _)) (ak (.mkTuple (LR.nil _)) (ak (.mkTuple (LR.nil _)) (ak (.mkTuple (LR.nil _)) pH))))))))))))))))))))))))))))))))))))))))))) hwr c1.big CG (rS x7) (fun τ=>by
  obtain ⟨n',fr',w',u',s1,s2,s3⟩:=mq (cs:=[ay Try.prog]) Try.func13 (si s _ n cv seed tries ah f hE (wl1.tp τ) ⟨_,_,rfl,nv,k1⟩)
  exact ⟨n',fr',w',u',s1,s2,s3.1⟩)
 obtain ⟨N,gs',w',sl',t',q',E',u,u',wl2',r,z,i,rfl,vr,wr,fc,Q⟩:=oK (sl:=sl) (Nat.le_refl _) cV (fun b x e hs=>by
  obtain ⟨q,s,o⟩:=x
  have:=(low b q s o e).2
  have:=(hS _ hs).1
  omega) (fun b hb=>(hS b hb).2) i0 hin hq
 obtain rfl:=A6 vr
 exact ⟨N,gs',w',sl',t',q',r,z,i,fun b hb=>fc.keep b hb fun b' s e=>(by have:=(low _ _ _ _ e).1;cases this),fc.os,fc.output,fc.size,Q⟩
structure CfR (s:ByteArray) (v:Value) (seed tries ah:Nat) (W w:World) (b7 b10 b13:Nat) (pv:Value):Prop where
 c7:w.heap[b7]? = some (.cells #[.int .u64 (seed:Nat)] 39 (0,0))
 c10:w.heap[b10]? = some (.cells (ints 28 fun _=>0) 43 (0,0))
 c13:w.heap[b13]? = some (.cells #[pv,v] 66 (0,0))
 prs:gC w pv s
 rt:Rt w pv
 pb:∀ad l c,pv=.slice (some ad) l c→0<c→W.heap.size≤ad.block
 cp:∀a l c,pv=.slice a l c→l≤c
 o7:W.heap.size≤b7∧W.heap.size≤b10∧W.heap.size≤b13∧b7≠b10∧b7≠b13∧b10≠b13
set_option maxRecDepth 100000 in
set_option maxHeartbeats 4000000 in
theorem xU (s:ByteArray) (v:Value) (n seed tries ah:Nat) (f:Nat→Int) (hcw:cwE s.data.toList n f=0) (ht:1≤tries∧tries≤16) (hh:1≤ah∧ah≤16) (W0 W:World) (hv:aY W0 v n f) (rv:Rt W0 v) (hag:∀b,b<W0.heap.size→W.heap[b]? = W0.heap[b]?) {Sn:Nat→Prop} (hS:∀b,Sn b→W0.heap.size≤b∧b<W.heap.size) (c:List Frame) {gs:Array Goroutine} {t:Trace} {qq:Nat→Nat} (i0:gs[0]? = some (G (mkF 13 #[.string s,v,.int .u64 (seed:Nat),.int .i64 (tries:Nat),.int .i64 (ah:Nat),undef,undef,undef,undef,undef,undef,undef,undef,undef,undef,undef,undef,undef,undef,undef,undef,undef,undef,undef,undef,undef,undef,undef,undef,undef,undef,undef,undef,undef,undef,undef,undef,undef,undef,undef,undef,undef,undef] [.code dr] .run) c)) (hq:Qs Try.prog Sn gs t qq 0 W.heap.size) (sl:Option (Nat × Nat)) :
  ∃N gs' w' sl' t' q',∃(g:Nat→Value) (b7 b10 b13:Nat) (pv:Value),runNT Try.prog N (crowd gs W sl) t=(.next (crowd gs' w' sl'),t')∧gs'.size=gs.size∧gs'[0]? = some (G (mkF 13 #[.string s,v,.int .u64 (seed:Nat),.int .i64 (tries:Nat),.int .i64 (ah:Nat),g 5,g 6,.pointer (some ⟨b7,0,none⟩),g 8,g 9,.pointer (some ⟨b10,0,none⟩),.int .i64 0,g 12,.pointer (some ⟨b13,0,none⟩),g 14,g 15,g 16,g 17,g 18,g 19,g 20,g 21,g 22,g 23,g 24,g 25,g 26,g 27,g 28,g 29,g 30,g 31,g 32,g 33,g 34,g 35,g 36,g 37,g 38,g 39,g 40,g 41,g 42] [.code (az 4 dr)] .run) c)∧CfR s v seed tries ah W w' b7 b10 b13 pv∧(∀b,b<W.heap.size→w'.heap[b]? = W.heap[b]?)∧w'.os=W.os∧w'.output=W.output∧W.heap.size≤w'.heap.size∧Qs Try.prog Sn gs' t' q' 0 w'.heap.size:=by
 have hn676:=(eY hcw).2.2.1
 obtain ⟨av,cv,rfl,nv,kv⟩:=hv
 have hn0:∀b q s,(fun _=>none:Env) b≠some (q,s,true):=fun b q s e=>by cases e
 obtain ⟨E1,wl1,av',c1,s1,b1,e1,r1,k1⟩:=fR (P:=Try.prog) (w:=W0) (Cp.nil W0).cq hn0 dG (f:=fun i=>.int .i64 (f i)) (fun i E=>.int _ _) kv rv
 have low:∀b q s o,E1 b=some (q,s,o)→o=false∧q<W0.heap.size:=fun b q s o e=>by
  refine ⟨?_,?_⟩
  ·cases o with
   | false=>rfl
   | true=>exact absurd e (s1 b q s)
  ·rcases b1 b q s o e with e | e
   ·cases e
   ·exact e
 have hwr:WR Try.prog E1 wl1 W:=iH c1.wr fun b x e=>by
  obtain ⟨q,s,o⟩:=x
  exact hag q (low b q s o e).2
 have hin:=dA.start (c:=c) (Post:=fun x w'=>CfP s av' n cv seed tries ah x w') (P:=Try.prog) (E:=E1) (wl:=wl1) (w:=W) ⟨_,Try.func13⟩ (x:=#[.string s,.slice av' n cv,.int .u64 (seed:Nat),.int .i64 (tries:Nat),.int .i64 (ah:Nat),undef,undef,undef,undef,undef,undef,undef,undef,undef,undef,undef,undef,undef,undef,undef,undef,undef,undef,undef,undef,undef,undef,undef,undef,undef,undef,undef,undef,undef,undef,undef,undef,undef,undef,undef,undef,undef,undef]) (y:=#[.string s,.slice av n cv,.int .u64 (seed:Nat),.int .i64 (tries:Nat),.int .i64 (ah:Nat),undef,undef,undef,undef,undef,undef,undef,undef,undef,undef,undef,undef,undef,undef,undef,undef,undef,undef,undef,undef,undef,undef,undef,undef,undef,undef,undef,undef,undef,undef,undef,undef,undef,undef,undef,undef,undef,undef]) (ak (.string _) (ak r1 (ak (.int _ _) (ak (.int _ _) (ak (.int _ _) (ak (.mkTuple (LR.nil _)) (ak (.mkTuple (LR.nil _)) (ak (.mkTuple (LR.nil _)) (ak (.mkTuple (LR.nil _)) (ak (.mkTuple (LR.nil _)) (ak (.mkTuple (LR.nil _)) (ak (.mkTuple (LR.nil _)) (ak (.mkTuple (LR.nil _)) (ak (.mkTuple (LR.nil _)) (ak (.mkTuple (LR.nil _)) (ak (.mkTuple (LR.nil _)) (ak (.mkTuple (LR.nil _)) (ak (.mkTuple (LR.nil _)) (ak (.mkTuple (LR.nil _)) (ak (.mkTuple (LR.nil _)) (ak (.mkTuple (LR.nil _)) (ak (.mkTuple (LR.nil _)) (ak (.mkTuple (LR.nil _)) (ak (.mkTuple (LR.nil _)) (ak (.mkTuple (LR.nil _)) (ak (.mkTuple (LR.nil _)) (ak (.mkTuple (LR.nil _)) (ak (.mkTuple (LR.nil _)) (ak (.mkTuple (LR.nil _)) (ak (.mkTuple (LR.nil _)) (ak (.mkTuple (LR.nil _)) (ak (.mkTuple (LR.nil _)) (ak (.mkTuple (LR.nil _)) (ak (.mkTuple (LR.nil _)) (ak (.mkTuple (LR.nil _)) (ak (.mkTuple (LR.nil _)) (ak (.mkTuple (LR.nil _)) (ak (.mkTuple (LR.nil _)) (ak (.mkTuple (LR.nil _)) (ak (.mkTuple (LR.nil _)) (ak (.mkTuple (LR.nil _)) (ak (.mkTuple (LR.nil _)) (ak (.mkTuple (LR.nil _)) pH))))))))))))))))))))))))))))))))))))))))))) hwr c1.big Ec (oF x7) (fun τ=>kO (qP s _ n cv seed tries ah f hcw ht hh (wl1.tp τ) ⟨_,_,rfl,nv,k1⟩))
 obtain ⟨N,gs',w',sl',t',q',E',x,y,wl2',r,z,i,po,lr,wr,big,fc,Q⟩:=gz (sl:=sl) (Nat.le_refl _) cV (fun b x e hs=>by
  obtain ⟨q,s,o⟩:=x
  have:=(low b q s o e).2
  have:=(hS _ hs).1
  omega) (fun b hb=>(hS b hb).2) i0 hin hq
 obtain ⟨vf,B7,B10,B13,pv0,rfl,q7,q10,q13,ho⟩:=po
 have hown:∀{b q:Nat},E' b=some (q,0,true)→W.heap.size≤q:=fun {b q} e=>by
  rcases fc.fresh b q 0 true e with e | e
  ·have:=(low _ _ _ _ e).1
   cases this
  ·exact e.1
 obtain ⟨a1,ea⟩:∃a1,av'=some a1:=by obtain ⟨b,o,e,_⟩:=k1 0 (by omega);exact ⟨_,e⟩
 subst ea
 have hr1:=r1.mono fc.le
 have hy:=(bU y 43 (by rw[←lr.size];rfl)).trans (rfl:_=#[(y.getD 0 undef),(y.getD 1 undef),(y.getD 2 undef),(y.getD 3 undef),(y.getD 4 undef),(y.getD 5 undef),(y.getD 6 undef),(y.getD 7 undef),(y.getD 8 undef),(y.getD 9 undef),(y.getD 10 undef),(y.getD 11 undef),(y.getD 12 undef),(y.getD 13 undef),(y.getD 14 undef),(y.getD 15 undef),(y.getD 16 undef),(y.getD 17 undef),(y.getD 18 undef),(y.getD 19 undef),(y.getD 20 undef),(y.getD 21 undef),(y.getD 22 undef),(y.getD 23 undef),(y.getD 24 undef),(y.getD 25 undef),(y.getD 26 undef),(y.getD 27 undef),(y.getD 28 undef),(y.getD 29 undef),(y.getD 30 undef),(y.getD 31 undef),(y.getD 32 undef),(y.getD 33 undef),(y.getD 34 undef),(y.getD 35 undef),(y.getD 36 undef),(y.getD 37 undef),(y.getD 38 undef),(y.getD 39 undef),(y.getD 40 undef),(y.getD 41 undef),(y.getD 42 undef)])
 have ge:∀i,i<43→y[i]? = some (y.getD i undef):=fun i hi=>by
  have:i<y.size:=by rw[←lr.size];exact hi
  simp[Array.getD_eq_getD_getElem?,this]
 generalize hg:(fun i=>y.getD i undef)=g
 have gg:∀i,y.getD i undef=g i:=fun i=>by rw[←hg]
 simp only[gg] at hy ge
 have v0:=lr.at_ 0 _ _ rfl (ge 0 (by omega))
 have v1:=lr.at_ 1 _ _ rfl (ge 1 (by omega))
 have v2:=lr.at_ 2 _ _ rfl (ge 2 (by omega))
 have v3:=lr.at_ 3 _ _ rfl (ge 3 (by omega))
 have v4:=lr.at_ 4 _ _ rfl (ge 4 (by omega))
 have v7:=lr.at_ 7 _ _ rfl (ge 7 (by omega))
 have v10:=lr.at_ 10 _ _ rfl (ge 10 (by omega))
 have v11:=lr.at_ 11 _ _ rfl (ge 11 (by omega))
 have v13:=lr.at_ 13 _ _ rfl (ge 13 (by omega))
 have h0:g 0=.string s:=by cases h:g 0 <;> rw[h] at v0 <;> cases v0 <;> rfl
 have h2:g 2=.int .u64 (seed:Nat):=by cases h:g 2 <;> rw[h] at v2 <;> cases v2 <;> rfl
 have h3:g 3=.int .i64 (tries:Nat):=by cases h:g 3 <;> rw[h] at v3 <;> cases v3 <;> rfl
 have h4:g 4=.int .i64 (ah:Nat):=by cases h:g 4 <;> rw[h] at v4 <;> cases v4 <;> rfl
 have h11:g 11=.int .i64 0:=by cases h:g 11 <;> rw[h] at v11 <;> cases v11 <;> rfl
 have h1:g 1=.slice av n cv:=wJ (by omega) v1 hr1
 obtain ⟨b7,y7,h7,o7,c7,l7⟩:=jA wr q7 (by kernel_rfl) v7
 obtain ⟨b10,y10,h10,o10,c10,l10⟩:=jA wr q10 (by kernel_rfl) v10
 obtain ⟨b13,y13,h13,o13,c13,l13⟩:=jA wr q13 (by kernel_rfl) v13
 rw[h0,h1,h2,h3,h4,h7,h10,h11,h13] at hy
 have e10:=tY l10
 subst e10
 have e7:y7=#[.int .u64 (seed:Nat)]:=by
  obtain ⟨z,hz,hv⟩:=l7.get (i:=0) rfl
  have:z=.int .u64 (seed:Nat):=by cases h:z <;> rw[h] at hv <;> cases hv <;> rfl
  subst this
  exact Array.ext (by rw[←l7.size]) fun i h1 h2=>by
   have:i=0:=by simp at h2;omega
   subst this
   rw[Array.getElem?_eq_getElem h1] at hz
   simpa using Option.some.inj hz
 subst e7
 obtain ⟨pv,hpv,vpv⟩:=l13.get (i:=0) rfl
 obtain ⟨zt,hzt,vzt⟩:=l13.get (i:=1) rfl
 obtain rfl:zt=.slice av n cv:=wJ (by omega) vzt hr1
 have e13:y13=#[pv,.slice av n cv]:=by
  refine Array.ext (by rw[←l13.size];rfl) fun i h1 h2=>?_
  have h3:i=0∨i=1:=by simp at h2;omega
  rcases h3 with rfl | rfl
  ·rw[Array.getElem?_eq_getElem h1] at hpv;exact Option.some.inj hpv
  ·rw[Array.getElem?_eq_getElem h1] at hzt;exact Option.some.inj hzt
 subst e13
 have hdif:∀{b b':Nat} {T T':TypeId} {x x':Array Value},w'.heap[b]? = some (.cells x T (0,0))→w'.heap[b']? = some (.cells x' T' (0,0))→T≠T'→b≠b':=fun {b b' T T' x x'} h h' hT e=>by
  subst e
  rw[h] at h'
  injection h' with h'
  injection h' with _ h'
  exact hT h'
 refine ⟨N,gs',w',sl',t',q',g,b7,b10,b13,pv,r,z,by rw[←hy];exact i,⟨c7,c10,c13,?_,?_,?_,?_,hown o7,hown o10,hown o13,hdif c7 c10 (by decide),hdif c7 c13 (by decide),hdif c10 c13 (by decide)⟩,fun b hb=>fc.keep b hb fun b' s e=>(by have:=(low _ _ _ _ e).1;cases this),fc.os,fc.output,fc.size,Q⟩
 ·rcases ho.2 with ⟨rfl,hn⟩ | ⟨gb,cap,cur,rfl,_,hgb,hnc,_,hcs,htk⟩
  ·obtain rfl:pv=.slice none 0 0:=by cases h:pv <;> rw[h] at vpv <;> cases vpv <;> rfl
   exact ⟨none,0,by rw[hn],fun k hk=>by omega⟩
  ·obtain ⟨a,rfl,ha⟩:=jT wr hgb (by kernel_rfl) vpv
   refine ⟨a,cap,rfl,fun k hk=>?_⟩
   obtain ⟨q,yy,rfl,_,hq,hl⟩:=ha (by omega)
   have hcell:∀i (m:Int),(ints ((s.size-1)*2) (prF s))[i]? = some (.int .i64 m)→w'.cell? ⟨q,i,none⟩=some (.int .i64 m):=fun i m hi=>by
    have hlt:i<(s.size-1)*2:=by
     have:=(Array.getElem?_eq_some_iff.1 hi).1
     rwa [af] at this
    have hcu:cur[i]? = some (.int .i64 m):=by
     rw[←Array.getElem?_toList] at hi ⊢
     rw[←htk,List.getElem?_take,if_pos hlt] at hi
     exact hi
    obtain ⟨z,hz,vz⟩:=hl.get hcu
    have:z=.int .i64 m:=by cases h:z <;> rw[h] at vz <;> cases vz <;> rfl
    subst this
    rw[cell_of_row _ _ _ _ _ _ hq]
    exact hz
   refine ⟨q,0,rfl,fun j u hu=>?_⟩
   have hj:j<2:=by
    have:=(List.getElem?_eq_some_iff.1 hu).1
    simpa using this
   rw[Nat.zero_add]
   rcases (by omega:j=0∨j=1) with rfl | rfl
   ·cases hu
    refine hcell (k*2+0) _ ?_
    rw[aI _ (by omega)]
    unfold prF
    rw[if_pos (by omega),show (k*2+0) / 2=k by omega]
   ·cases hu
    refine hcell (k*2+1) _ ?_
    rw[aI _ (by omega)]
    unfold prF
    rw[if_neg (by omega),show (k*2+1) / 2=k by omega]
 ·intro a l c e hp
  subst e
  rcases ho.2 with ⟨rfl,hn⟩ | ⟨gb,cap,cur,rfl,_,hgb,hnc,_,hcs,htk⟩
  ·cases vpv
  ·obtain ⟨a',e2,ha⟩:=jT wr hgb (by kernel_rfl) vpv
   cases e2
   obtain ⟨q,yy,e3,_,hq,hl⟩:=ha hp
   cases e3
   exact ⟨rfl,_,_,_,hq⟩
 ·intro ad l c e hp
  subst e
  rcases ho.2 with ⟨rfl,hn⟩ | ⟨gb,cap,cur,rfl,_,hgb,hnc,_,hcs,htk⟩
  ·cases vpv
  ·obtain ⟨a',e2,ha⟩:=jT wr hgb (by kernel_rfl) vpv
   cases e2
   obtain ⟨q,yy,e3,e4,_⟩:=ha hp
   cases e3
   exact hown e4
 ·intro a l c e
  subst e
  rcases ho.2 with ⟨rfl,hn⟩ | ⟨gb,cap,cur,rfl,_,hgb,hnc,_,hcs,htk⟩
  ·cases vpv <;> omega
  ·obtain ⟨a',e2,ha⟩:=jT wr hgb (by kernel_rfl) vpv
   cases e2
   exact hnc
end Cs
end Go.Proofs.Ytpdemelchhkfaaa
