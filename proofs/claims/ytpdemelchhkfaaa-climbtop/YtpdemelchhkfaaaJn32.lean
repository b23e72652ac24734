import Derived.Conc.LeavingOf
import Derived.Test.YtpdemelchhkfaaaJn31
namespace Go.Proofs.Ytpdemelchhkfaaa
section
open Go.RowKit PK
namespace Jm
theorem od {key:Nat→Nat} (h:Pm.cR key) {a b:Nat} (ha:a<26) (hb:b<26):Pm.cR (sw key a b):=by
 have e:sw key a b=fun i=>key (if i=a then b else if i=b then a else i):=by
  funext i
  unfold sw
  split
  ·rfl
  ·split <;> rfl
 rw[e]
 refine Pm.cR.comp (p:=fun i=>if i=a then b else if i=b then a else i) ⟨fun i hi=>?_,fun i j hi hj e=>?_⟩ h
 ·split
  ·exact hb
  ·split <;> omega
 ·split at e <;> split at e <;> (try split at e) <;> (try split at e) <;> omega
theorem rj (s:Nat):∀j,j≤25→Pm.cR (bgK s j)
 | 0,_=>Pm.cR.id
 | j+1,h=>od (rj s j (by omega)) (by omega) (by have:=sr s (j:=j) (by omega);omega)
theorem um {p:Nat × Nat} (hp:p ∈ prs 26 0):p.1<p.2∧p.2<26:=by
 unfold prs at hp
 simp only[List.mem_append,List.mem_flatMap,List.mem_map,List.mem_range] at hp
 rcases hp with ⟨c,hc,d,hd,rfl⟩ | ⟨d,hd,rfl⟩
 ·exact ⟨hd,hc⟩
 ·omega
theorem yd {F:(Nat→Nat)→Int} (hF:∀k:Nat→Nat,(∀i,i<26→k i<26)→-255000≤F k∧F k≤255000):∀(n:Nat) (key:Nat→Nat),(∀i,i<26→key i<26)→(255000-F key).toNat≤n→∃k,Ups F key k
 | n,key,hk,hn=>by
  by_cases h:(bst F key (prs 26 0)).2 > F key
  ·have h0:=(hF key hk).1
   have h2:=((uk F key (by omega) (prs 26 0)).2).resolve_left (by omega)
   have hb:∀i,i<26→(bst F key (prs 26 0)).1 i<26:=pG (Q:=fun k=>∀i,i<26→k i<26) F key hk _ fun p hp=>qU hk (by have:=um hp;omega) (um hp).2
   have h3:=(hF _ hb).2
   cases n with
   | zero=>omega
   | succ n =>
    obtain ⟨k,hu⟩:=yd hF n (bst F key (prs 26 0)).1 hb (by omega)
    exact ⟨k,.go h hu⟩
  ·exact ⟨key,.stop h⟩
end Jm
namespace Cs
section
variable {s:ByteArray} (hs:Vg.Ls s.data.toList) (hl:s.size≤256) {f:Nat→Int} (hf:∀i,i<676→-1000≤f i∧f i≤1000)
include hs hl hf
theorem xB (seed t:Nat):Jm.Ups (sc s f) (Jm.bgK ((seed+t) % 18446744073709551616) 25) (kE s f seed t):=by
 obtain ⟨k,hk⟩:=Jm.yd (F:=sc s f) (fun k hk=>xx hs hl hf hk) _ (Jm.bgK ((seed+t) % 18446744073709551616) 25) (Jm.ko _ 25 (Nat.le_refl _)) (Nat.le_refl _)
 unfold kE
 rw[hk.up]
 exact hk
theorem zm (seed t:Nat):Pm.cR (kE s f seed t):=(xB hs hl hf seed t).ind (Q:=Pm.cR) (Jm.rj _ 25 (Nat.le_refl _)) fun _ _ _ h hab hb=>Jm.od h (by omega) hb
theorem Co (seed t:Nat) {a b:Nat} (hab:a<b) (hb:b<26):sc s f (Jm.sw (kE s f seed t) a b)≤sc s f (kE s f seed t):=by
 have h1:=(xB hs hl hf seed t).top
 have h2:sc s f (Jm.sw (kE s f seed t) a b)≤_:=Jm.BY (sc s f) (kE s f seed t) _ _ (Jm.zf hab hb)
 omega
omit hl hf in
theorem Bq {n:Nat} {k:Nat→Nat} (hc:cwE s.data.toList n f=0) (hk:Pm.cR k):lQ s n f (Pm.up k)=0∧nt s n f (Pm.up k)=sc s f k:=by
 have h1:lQ s n f (Pm.up k)=0:=by
  unfold lQ
  rw[if_neg (by simp[hc])]
  exact Pm.yK k hk
 refine ⟨h1,?_⟩
 unfold nt
 rw[if_neg (by simp[h1])]
 exact yH hs f fun i _=>by simp[Pm.up]
theorem wQ (seed m:Nat):∃t:Nat,t<m+1∧bdE s f seed (m+1)=⟨kK s f seed t,kZ s f seed t,(t:Nat)⟩:=by
 obtain ⟨_,h1,h2,h3⟩:=kB hs hl hf seed m
 refine ⟨(bdE s f seed (m+1)).tr.toNat,by omega,?_⟩
 rw[Int.toNat_of_nonneg h2]
 exact h3
theorem yu (seed m:Nat):(bdE s f seed (m+1)).sc<(bdE s f seed (m+2)).sc∨bdE s f seed (m+2)=bdE s f seed (m+1):=by
 have h1:=(kB hs hl hf seed m).2.1
 have e:bdE s f seed (m+2)=upB (kK s f seed) (kZ s f seed) (bdE s f seed (m+1)) (m+1):=by
  unfold bdE
  rw[List.range_succ,List.foldl_append]
  rfl
 rw[e]
 unfold upB
 by_cases h:(bdE s f seed (m+1)).sc<kZ s f seed (m+1)
 ·rw[if_pos (.inl h)]
  exact .inl h
 ·rw[if_neg (by omega)]
  exact .inr rfl
end
end Cs
end
namespace Cs
open Go.Conc Go.RowKit PK
variable [Fns]
theorem dA.mid {P:Program} {Post:Array Value→World→Prop} {fB:FuncId} {c:List Frame} {ct:Code} {E:Env} {wl w:World} (hf:dK P fB) {x y:Array Value} (hx:LR E x y) (hw:WR P E wl w) (hb:Fns.G≤wl.heap.size) {todo todo':List Item} (ht:todo.all (aK P)=true) (hr:RT ct todo todo') (h:∀τ,g8 P [ay P] Post (G (mkF fB x todo .run) [ay P]) (wl.tp τ)) :
  dA P Post fB c ct E (G (mkF fB x todo .run) [ay P]) wl (G (mkF fB y todo' .run) c) w:=⟨.top hf hx ht hr,hw,hb,fun τ _=>h τ⟩
omit [Fns]
section
variable {P:Program} {Post:Array Value→World→Prop} {cl:List Frame} {fn:FuncId} {x:Array Value} {w:World}
def gY (Post:Array Value→World→Prop) (e:Exit) (a:Act) (w:World):Prop:=e=.normal∧a.defers=[]∧Post a.tmps w
theorem m8 {ops:Array Oper} {l:List Nat} {c:Code} (h:wpOps P ops (Exit.then (c.wp P (gY Post)) (gY Post)) l ⟨x,[]⟩ w):g8 P cl Post (G (mkF fn x [.inRegion ops l,.code c] .run) cl) w:=by
 obtain ⟨e,a1,w1,hq,harr⟩:=wp_ops l ⟨x,[]⟩ w h (mkF fn #[] [] .run) [.code c] cl
 cases e with
 | normal =>
  obtain ⟨e2,a2,w2,⟨rfl,h1,h2⟩,harr2⟩:=hq (mkF fn #[] [] .run) [] cl
  obtain ⟨T,D⟩:=a2
  cases h1
  have s1:Steps P (lone ((mkF fn #[] [] .run).at ⟨x,[]⟩ [.inRegion ops l,.code c]) cl w) (lone ((mkF fn #[] [] .run).at a1 [.code c]) cl w1):=harr
  have s2:Steps P (lone ((mkF fn #[] [] .run).at a1 [.code c]) cl w1) (lone ((mkF fn #[] [] .run).at ⟨T,[]⟩ []) cl w2):=harr2
  obtain ⟨n,hn⟩:=s1.trans s2
  exact ⟨n,fn,T,w2,hn,h2⟩
 | exit id=>cases hq.1
 | goto l=>cases hq.1
 | ret=>cases hq.1
 | panic ch=>cases hq.1
 | outgrown=>cases hq.1
theorem lH {ops:Array Oper} {l:List Nat} {c c2:Code} (h:wpOps P ops (Exit.then (c.wp P (Exit.then (c2.wp P (gY Post)) (gY Post))) (gY Post)) l ⟨x,[]⟩ w):g8 P cl Post (G (mkF fn x [.inRegion ops l,.code c,.code c2] .run) cl) w:=by
 obtain ⟨e,a1,w1,hq,harr⟩:=wp_ops l ⟨x,[]⟩ w h (mkF fn #[] [] .run) [.code c,.code c2] cl
 cases e with
 | normal =>
  obtain ⟨e2,a2,w2,hq2,harr2⟩:=hq (mkF fn #[] [] .run) [.code c2] cl
  cases e2 with
  | normal =>
   obtain ⟨e3,a3,w3,⟨rfl,h1,h2⟩,harr3⟩:=hq2 (mkF fn #[] [] .run) [] cl
   obtain ⟨T,D⟩:=a3
   cases h1
   have s1:Steps P (lone ((mkF fn #[] [] .run).at ⟨x,[]⟩ [.inRegion ops l,.code c,.code c2]) cl w) (lone ((mkF fn #[] [] .run).at a1 [.code c,.code c2]) cl w1):=harr
   have s2:Steps P (lone ((mkF fn #[] [] .run).at a1 [.code c,.code c2]) cl w1) (lone ((mkF fn #[] [] .run).at a2 [.code c2]) cl w2):=harr2
   have s3:Steps P (lone ((mkF fn #[] [] .run).at a2 [.code c2]) cl w2) (lone ((mkF fn #[] [] .run).at ⟨T,[]⟩ []) cl w3):=harr3
   obtain ⟨n,hn⟩:=s1.trans (s2.trans s3)
   exact ⟨n,fn,T,w3,hn,h2⟩
  | exit id=>cases hq2.1
  | goto l=>cases hq2.1
  | ret=>cases hq2.1
  | panic ch=>cases hq2.1
  | outgrown=>cases hq2.1
 | exit id=>cases hq.1
 | goto l=>cases hq.1
 | ret=>cases hq.1
 | panic ch=>cases hq.1
 | outgrown=>cases hq.1
end
end Cs
namespace Cs
open Go.Conc PK Go.RowKit
section
variable {P:Program} {Sn:Nat→Prop} {gs:Array Goroutine} {t:Trace} {q:Nat→Nat} {size:Nat}
theorem Qs.AX (h:Qs P Sn gs t q 0 size):∃B0,∀B,B0≤B→Past (snL Sn) B t:=by
 obtain ⟨B0,hB0⟩:=yc t
 refine ⟨B0,fun B hB=>⟨h.clean,fun i a ha _=>?_,fun i g hg0 hne hc=>?_,h.df,hB0 B hB⟩⟩
 ·obtain ⟨x,hx,hxa⟩:=touch_of ha
  by_cases hs:snL Sn a.loc
  ·obtain ⟨h1,h2⟩:=h.sn i x a hx hxa hs
   cases hk:a.kind with
   | plain=>exact absurd hk h1
   | said =>
    have:=knows_own hx
    rw[h2 hk] at this
    exact .inl this
   | atomic=>exact .inr ⟨hs,rfl⟩
  ·exact .inl (h.kn i x a hx hxa (.inl hs))
 ·obtain ⟨a,ha,_,hk⟩:=hc
  obtain ⟨x,hx,hxa⟩:=touch_of ha
  have hgx:x.g=g:=by
   rw[Trace.g?,hx] at hg0
   exact Option.some.inj hg0
  have hkn:Knows t 0 i:=by
   by_cases hs:snL Sn a.loc
   ·rcases hk with hk | hk
    ·obtain ⟨h1,h2⟩:=h.sn i x a hx hxa hs
     cases hk2:a.kind with
     | plain=>exact absurd hk2 h1
     | said=>exact absurd (hgx.symm.trans (h2 hk2)) hne
     | atomic=>exact absurd hk2 hk
    ·exact h.kn i x a hx hxa (.inr hk)
   ·exact h.kn i x a hx hxa (.inl hs)
  obtain ⟨j,z,h1,h2,h3⟩:=hkn
  refine ⟨j,by simp[Trace.g?,h1,h2],?_⟩
  rcases h3 with rfl | h3
  ·rw[hx] at h1
   cases h1
   exact absurd (hgx.symm.trans h2) hne
  ·exact h3
end
variable [Fns]
theorem pe {P:Program} {Sn:Nat→Prop} {Post:Value→World→Prop} (hG:P.globals.size≤Fns.G) (hC:bu P) {gs:Array Goroutine} {t:Trace} {q:Nat→Nat} {d:Nat} {g:Goroutine} {w:World} {sl:Option (Nat × Nat)} {c:List Frame} {E:Env} {gl:Goroutine} {wl:World} (hn:∀b x,E b=some x→¬Sn x.1) (hsn:∀b,Sn b→b<w.heap.size) (h0:gs[0]? = some g) (hin:bB P Post c E gl wl g w) (hq:Qs P Sn gs t q d w.heap.size) :
  ∃N gs' w' sl' t' q' E' gl' wl' g',runNT P N (crowd gs w sl) t=(.next (crowd gs' w' sl'),t')∧gs'.size=gs.size∧gs'[0]? = some g'∧bB P Post c E' gl' wl' g' w'∧Stop [ay P] gl'∧dL g'=dL g∧FC E E' w w'∧Qs P Sn gs' t' q' d w'.heap.size:=by
 have hnn:∀{E':Env} {w':World},FC E E' w w'→∀b x,E' b=some x→¬Sn x.1:=fun {E' w'} hf b x hx hs=>by
  obtain ⟨c,s,o⟩:=x
  rcases hf.fresh b c s o hx with h1 | ⟨h1,_⟩
  ·exact hn b _ h1 hs
  ·exact absurd (hsn c hs) (by omega)
 let Q:Nat→Goroutine→World→Prop:=fun d' g' w'=>d'=d∧∃E' gl' wl',bB P Post c E' gl' wl' g' w'∧Stop [ay P] gl'∧dL g'=dL g∧FC E E' w w'
 let I:Option { s:Gh // Acc (After P [ay P]) s }→Nat→Goroutine→World→Prop:=fun μ d' g' w'=>match μ with
  | some s=>d'=d∧∃E',bB P Post c E' s.1.1 s.1.2 g' w'∧dL g'=dL g∧FC E E' w w'
  | none=>False
 have fcAt:∀{E':Env} {w':World} (k:Nat),FC E E' w w'→FC E E' w (w'.at k):=fun k h=>⟨h.le,h.os,h.tape,h.output,h.size,h.keep,h.fresh⟩
 have fcAt':∀{E':Env} {w':World} (k:Nat),FC E E' w (w'.at k)→FC E E' w w':=fun k h=>⟨h.le,h.os,h.tape,h.output,h.size,h.keep,h.fresh⟩
 have a1:∀μ d' g' w' k,I μ d' g' w'→I μ d' g' (w'.at k):=fun μ d' g' w' k h=>by
  cases μ with
  | none=>exact h.elim
  | some s =>
   obtain ⟨h0,E',h1,h3,h2⟩:=h
   exact ⟨h0,E',h1.other fun _ _ _=>rfl,h3,fcAt k h2⟩
 have a2:∀d' g' w' k,Q d' g' (w'.at k)→Q d' g' w':=fun d' g' w' k h=>by
  obtain ⟨h1,E',gl',wl',k1,k2,k3,k4⟩:=h
  exact ⟨h1,E',gl',wl',k1.other fun _ _ _=>rfl,k2,k3,fcAt' k k4⟩
 have a3:∀μ d' g' w',I μ d' g' w'→g'.status=.running:=fun μ d' g' w' h=>by
  cases μ with
  | none=>exact h.elim
  | some s =>
   obtain ⟨_,E',h1,h3,h2⟩:=h
   exact h1.running
 have a4:∀μ d' g' w',I μ d' g' w'→Q d' g' w'∨∃g2 w2 es μ',stepG P true g' w'=.go g2 w2 es∧lM P μ' μ∧I μ' (deafBehind d' es) g2 w2∧w'.heap.size≤w2.heap.size∧∀e ∈ es,EvS Sn w2.heap.size e:=fun μ d' g' w' h=>by
  cases μ with
  | none=>exact h.elim
  | some s =>
   obtain ⟨rfl,E1,hin1,hl1,hf1⟩:=h
   by_cases hs:Stop [ay P] s.1.1
   ·exact .inl ⟨rfl,E1,_,_,hin1,hs,hl1,hf1⟩
   ·obtain ⟨E',gl',wl',g2,w2,es,hst,hin',haft,hev,hfc,hl2⟩:=hin1.AH hG hC true hs
    have hok:=fun e he=>mV (Sn:=Sn) hin'.wr (hnn (hf1.trans hfc)) (hev e he)
    exact .inr ⟨g2,w2,es,some ⟨(gl',wl'),dY hin'.live⟩,hst,.on haft,⟨deafBehind_still (fun e he=>(hok e he).2) _,E',hin',hl2.trans hl1,hf1.trans hfc⟩,hfc.size,fun e he=>(hok e he).1⟩
 obtain ⟨N,gs',w',sl',t',q',d',g',h1,h2,h3,⟨rfl,E',gl',wl',k1,k2,k3,k4⟩,h5⟩:=iD (P:=P) (mg P) I Q a1 a2 a3 a4 (μ:=some ⟨(gl,wl),dY hin.live⟩) (sl:=sl) h0 ⟨rfl,E,hin,rfl,FC.refl E w⟩ hq
 exact ⟨N,gs',w',sl',t',q',E',gl',wl',g',h1,h2,h3,k1,k2,k3,k4,h5⟩
theorem DI (E:Env) (g:Nat→Value):∃j:Nat→Value,∀i,VR E (j i) (g i):=⟨fun i=>(Cv E (g i)).choose,fun i=>(Cv E (g i)).choose_spec⟩
theorem xh {E:Env} {n:Nat} {f:Nat→Int}:LR E (ints n f) (ints n f):=by
 refine ⟨rfl,fun i a b ha hb=>?_⟩
 have hi:i<n:=by
  have:=(Array.getElem?_eq_some_iff.1 ha).1
  rwa [af] at this
 rw[aI f hi] at ha hb
 cases ha
 cases hb
 exact .int _ _
theorem zy {E:Env} {W:World} {a:Option Addr} {n c:Nat} {f:Nat→Int} {v u:Value} (h:VR E (.slice a n c) v) (h':VR E (.slice a n c) u) (hv:aY W v n f) (rv:Rt W v):aY W u n f∧Rt W u:=by
 by_cases hc:0<c∨0<n
 ·cases a with
  | none =>
   cases h
   cases h'
   ·exact ⟨hv,rv⟩
  | some ad =>
   have e:v=u:=by
    cases h with
    | bP a b=>omega
    | slice l c ha =>
     cases h' with
     | bP a b=>omega
     | slice l c hb =>
      rename_i b b'
      obtain ⟨b1,b2,b3⟩:=b
      obtain ⟨d1,d2,d3⟩:=b'
      obtain ⟨s,o,e1,e2,e3,_⟩:=ha
      obtain ⟨s',o',f1,f2,f3,_⟩:=hb
      dsimp only at e1 e2 e3 f1 f2 f3
      rw[e1] at f1
      cases f1
      subst e2 e3 f2 f3
      rfl
   subst e
   exact ⟨hv,rv⟩
 ·obtain rfl:c=0:=by omega
  obtain rfl:n=0:=by omega
  obtain ⟨av,cv,rfl,nv,kv⟩:=hv
  have hu:∃b,u=.slice b 0 0:=by
   cases h' <;> exact ⟨_,rfl⟩
  obtain ⟨b,rfl⟩:=hu
  exact ⟨⟨b,0,rfl,nv,fun c hc=>absurd hc (Nat.not_lt_zero _)⟩,fun a l c e hp=>by cases e;exact absurd hp (Nat.lt_irrefl _)⟩
end Cs
section
open Go.Conc
end
namespace Cs
open Go.Conc Go.RowKit PK
open Go.ConcR (KK WgAt wgBlock)
open Go.ConcM (OsLater)
def Kept (W W':World):Prop:=(∀b,b<W.heap.size→W'.heap[b]? = W.heap[b]?)∧OsLater W.os W'.os∧W'.output=W.output
end Cs
namespace Cs
open Go.Conc Go.RowKit PK
open Go.ConcR (KK WgAt wgBlock)
open Go.ConcM (OsLater)
end Cs
section
open Go.Conc Go.RowKit PK Cs
noncomputable def Cs.pB:Code:=Try.f6.body.getD .skip
noncomputable def Cs.pO3:Array Oper:=match Cs.az 2 Cs.pB with | .seq (.region _ o _) _=>o | _=>#[]
def Cs.PtA (s:ByteArray) (v:Value) (seed:Nat) (tries ah others:Int) (T:Array Value):Prop:=T.size=157∧T[0]? = some (.string s)∧T[1]? = some v∧T[2]? = some (.int .u64 (seed:Nat))∧T[3]? = some (.int .i64 tries)∧T[4]? = some (.int .i64 ah)∧T[5]? = some (.int .i64 others)
theorem Cs.PtA.lit {s:ByteArray} {u:Value} {seed:Nat} {tries ah others:Int} {T:Array Value} (h:PtA s u seed tries ah others T):∃x:Nat→Value,T=#[Value.string s,u,Value.int IntKind.u64 (seed:Nat),Value.int IntKind.i64 tries,Value.int IntKind.i64 ah,Value.int IntKind.i64 others,x 6,x 7,x 8,x 9,x 10,x 11,x 12,x 13,x 14,x 15,x 16,x 17,x 18,x 19,x 20,x 21,x 22,x 23,x 24,x 25,x 26,x 27,x 28,x 29,x 30,x 31,x 32,x 33,x 34,x 35,x 36,x 37,x 38,x 39,x 40,x 41,x 42,x 43,x 44,x 45,x 46,x 47,x 48,x 49,x 50,x 51,x 52,x 53,x 54,x 55,x 56,x 57,x 58,x 59,x 60,x 61,x 62,x 63,x 64,x 65,x 66,x 67,x 68,x 69,x 70,x 71,x 72,x 73,x 74,x 75,x 76,x 77,x 78,x 79,x 80,x 81,x 82,x 83,x 84,x 85,x 86,x 87,x 88,x 89,x 90,x 91,x 92,x 93,x 94,x 95,x 96,x 97,x 98,x 99,x 100,x 101,x 102,x 103,x 104,x 105,x 106,x 107,x 108,x 109,x 110,x 111,x 112,x 113,x 114,x 115,x 116,x 117,x 118,x 119,x 120,x 121,x 122,x 123,x 124,x 125,x 126,x 127,x 128,x 129,x 130,x 131,x 132,x 133,x 134,x 135,x 136,x 137,x 138,x 139,x 140,x 141,x 142,x 143,x 144,x 145,x 146,x 147,x 148,x 149,x 150,x 151,x 152,x 153,x 154,x 155,x 156]:=by
 obtain ⟨h0,h1,h2,h3,h4,h5,h6⟩:=h
 have e:=bU T 157 h0
 generalize hx:(fun i=>T.getD i undef)=x at e
 have fv:∀i y,T[i]? = some y→x i=y:=fun i y hy=>by rw[←hx];simp[Array.getD_eq_getD_getElem?,hy]
 have q:T=#[x 0,x 1,x 2,x 3,x 4,x 5,x 6,x 7,x 8,x 9,x 10,x 11,x 12,x 13,x 14,x 15,x 16,x 17,x 18,x 19,x 20,x 21,x 22,x 23,x 24,x 25,x 26,x 27,x 28,x 29,x 30,x 31,x 32,x 33,x 34,x 35,x 36,x 37,x 38,x 39,x 40,x 41,x 42,x 43,x 44,x 45,x 46,x 47,x 48,x 49,x 50,x 51,x 52,x 53,x 54,x 55,x 56,x 57,x 58,x 59,x 60,x 61,x 62,x 63,x 64,x 65,x 66,x 67,x 68,x 69,x 70,x 71,x 72,x 73,x 74,x 75,x 76,x 77,x 78,x 79,x 80,x 81,x 82,x 83,x 84,x 85,x 86,x 87,x 88,x 89,x 90,x 91,x 92,x 93,x 94,x 95,x 96,x 97,x 98,x 99,x 100,x 101,x 102,x 103,x 104,x 105,x 106,x 107,x 108,x 109,x 110,x 111,x 112,x 113,x 114,x 115,x 116,x 117,x 118,x 119,x 120,x 121,x 122,x 123,x 124,x 125,x 126,x 127,x 128,x 129,x 130,x 131,x 132,x 133,x 134,x 135,x 136,x 137,x 138,x 139,x 140,x 141,x 142,x 143,x 144,x 145,x 146,x 147,x 148,x 149,x 150,x 151,x 152,x 153,x 154,x 155,x 156]:=e.trans rfl
 rw[fv 0 _ h1,fv 1 _ h2,fv 2 _ h3,fv 3 _ h4,fv 4 _ h5,fv 5 _ h6] at q
 exact ⟨x,q⟩
set_option maxRecDepth 100000 in
set_option maxHeartbeats 4000000 in
theorem uI (T:Array Value) (s:ByteArray) (v:Value) (seed:Nat) (tries ah others:Int) (hT:Cs.PtA s v seed tries ah others T) (w:World) :
  (Cs.cutAt 2 Cs.pB).wp Try.prog (Cs.gY fun T _=>Cs.PtA s v seed tries ah others T) ⟨T,[]⟩ w:=by
 have HA:=(show Hid (∀W,Calls Try.prog 15 #[] W fun e w'=>e=.returned (.bool true)∧Below W.heap.size W w') from qx)
 obtain ⟨x,rfl⟩:=hT.lit
 clear hT
 simp only[Cs.cutAt,Cs.pB,Try.f6,Option.getD_some]
 go_wp2_with fail
 refine Calls.mono (HA.out _) ?_
 rintro e W1 ⟨rfl,hb⟩
 go_wp2_with fail
 exact ⟨rfl,rfl,rfl,rfl,rfl,rfl,rfl,rfl,rfl⟩
namespace Cs
theorem BI:kI 2 pB=true:=by kernel_rfl
theorem DT:codeOk Try.prog (cutAt 2 pB)=true:=by kernel_rfl
theorem uN (s:ByteArray) (v:Value) (seed:Nat) (tries ah others:Int):∃T,PtA s v seed tries ah others T∧Frame.enter Try.prog 6 #[.string s,v,.int .u64 (seed:Nat),.int .i64 tries,.int .i64 ah,.int .i64 others] .normal=(base 6).at ⟨T,[]⟩ [.code pB]:=by
 refine ⟨#[.string s,v,.int .u64 (seed:Nat),.int .i64 tries,.int .i64 ah,.int .i64 others]++Array.replicate 151 undef,⟨by simp,by simp,by simp,by simp,by simp,by simp,by simp⟩,?_⟩
 simp[Frame.enter,Try.func6,Try.f6,pB,base,Frame.at]
theorem PtA.set {s:ByteArray} {u:Value} {seed:Nat} {tries ah others:Int} {T:Array Value} (h:PtA s u seed tries ah others T) {k:Nat} (hk:6≤k) (v:Value):PtA s u seed tries ah others (T.setIfInBounds k v):=by
 obtain ⟨h0,h1,h2,h3,h4,h5,h6⟩:=h
 refine ⟨by simp[h0],?_,?_,?_,?_,?_,?_⟩ <;> (rw[Array.getElem?_setIfInBounds_ne (by omega)];assumption)
theorem fQ {E:Env} {s:ByteArray} {u u':Value} {seed:Nat} {tries ah others:Int} {T':Array Value} (pt:PtA s u' seed tries ah others T') (hu:VR E u u') (O:Nat→Option Value) (hO:∀i v,O i=some v→6≤i∧∃y,T'[i]? = some y∧VR E v y):∃T,LR E T T'∧PtA s u seed tries ah others T∧∀i v,O i=some v→T[i]? = some v:=by
 obtain ⟨j,hj⟩:=DI E (fun i=>T'.getD i undef)
 obtain ⟨h0,h1,h2,h3,h4,h5,h6⟩:=pt
 have key:∀i,i<157→∃v,(∀y,T'[i]? = some y→VR E v y)∧(∀z,O i=some z→v=z)∧(i=0→v=.string s)∧(i=1→v=u)∧(i=2→v=.int .u64 (seed:Nat))∧(i=3→v=.int .i64 tries)∧(i=4→v=.int .i64 ah)∧(i=5→v=.int .i64 others):=fun i hi=>by
  by_cases h:6≤i
  ·cases ho:O i with
   | none=>exact ⟨j i,fun y hy=>(by have:=hj i;rwa [show T'.getD i undef=y by simp[Array.getD_eq_getD_getElem?,hy]] at this),fun z e=>(by cases e),by omega,by omega,by omega,by omega,by omega,by omega⟩
   | some z =>
    obtain ⟨_,y,e1,e2⟩:=hO i z ho
    exact ⟨z,fun y' hy=>(by rw[e1] at hy;cases hy;exact e2),fun z' e=>(by cases e;rfl),by omega,by omega,by omega,by omega,by omega,by omega⟩
  ·have hn:∀z,O i≠some z:=fun z e=>h (hO i z e).1
   have:i=0∨i=1∨i=2∨i=3∨i=4∨i=5:=by omega
   rcases this with rfl | rfl | rfl | rfl | rfl | rfl
   ·exact ⟨_,fun y hy=>(by rw[h1] at hy;cases hy;exact .string _),fun z e=>absurd e (hn z),fun _=>rfl,by omega,by omega,by omega,by omega,by omega⟩
   ·exact ⟨_,fun y hy=>(by rw[h2] at hy;cases hy;exact hu),fun z e=>absurd e (hn z),by omega,fun _=>rfl,by omega,by omega,by omega,by omega⟩
   ·exact ⟨_,fun y hy=>(by rw[h3] at hy;cases hy;exact .int _ _),fun z e=>absurd e (hn z),by omega,by omega,fun _=>rfl,by omega,by omega,by omega⟩
   ·exact ⟨_,fun y hy=>(by rw[h4] at hy;cases hy;exact .int _ _),fun z e=>absurd e (hn z),by omega,by omega,by omega,fun _=>rfl,by omega,by omega⟩
   ·exact ⟨_,fun y hy=>(by rw[h5] at hy;cases hy;exact .int _ _),fun z e=>absurd e (hn z),by omega,by omega,by omega,by omega,fun _=>rfl,by omega⟩
   ·exact ⟨_,fun y hy=>(by rw[h6] at hy;cases hy;exact .int _ _),fun z e=>absurd e (hn z),by omega,by omega,by omega,by omega,by omega,fun _=>rfl⟩
 have hg:∃g:Nat→Value,∀i (hi:i<157),(∀y,T'[i]? = some y→VR E (g i) y)∧(∀z,O i=some z→g i=z)∧(i=0→g i=.string s)∧(i=1→g i=u)∧(i=2→g i=.int .u64 (seed:Nat))∧(i=3→g i=.int .i64 tries)∧(i=4→g i=.int .i64 ah)∧(i=5→g i=.int .i64 others):=⟨fun i=>if hi:i<157 then (key i hi).choose else undef,fun i hi=>by
  dsimp only
  rw[dif_pos hi]
  exact (key i hi).choose_spec⟩
 obtain ⟨g,hg⟩:=hg
 have hT:∀i,i<157→(Array.ofFn (n:=157) fun i=>g i)[i]? = some (g i):=fun i hi=>by
  rw[Array.getElem?_ofFn,dif_pos hi]
 refine ⟨Array.ofFn (n:=157) fun i=>g i,⟨by simp[h0],fun i a b ha hb=>?_⟩,⟨by simp,?_,?_,?_,?_,?_,?_⟩,fun i v hv=>?_⟩
 ·have hi:i<157:=by rw[←h0];exact (Array.getElem?_eq_some_iff.1 hb).1
  rw[hT i hi] at ha
  cases ha
  exact (hg i hi).1 _ hb
 ·rw[hT 0 (by omega),(hg 0 (by omega)).2.2.1 rfl]
 ·rw[hT 1 (by omega),(hg 1 (by omega)).2.2.2.1 rfl]
 ·rw[hT 2 (by omega),(hg 2 (by omega)).2.2.2.2.1 rfl]
 ·rw[hT 3 (by omega),(hg 3 (by omega)).2.2.2.2.2.1 rfl]
 ·rw[hT 4 (by omega),(hg 4 (by omega)).2.2.2.2.2.2.1 rfl]
 ·rw[hT 5 (by omega),(hg 5 (by omega)).2.2.2.2.2.2.2 rfl]
 ·obtain ⟨_,y,e1,_⟩:=hO i v hv
  have hi:i<157:=by rw[←h0];exact (Array.getElem?_eq_some_iff.1 e1).1
  rw[hT i hi,(hg i hi).2.1 v hv]
theorem PtA.back {E:Env} {s:ByteArray} {a:Option Addr} {n c:Nat} {v:Value} {seed:Nat} {tries ah others:Int} {T T':Array Value} {W:World} {f:Nat→Int} (h:PtA s (.slice a n c) seed tries ah others T) (lr:LR E T T') (hv:VR E (.slice a n c) v) (m:aY W v n f) (r:Rt W v):∃u,PtA s u seed tries ah others T'∧VR E (.slice a n c) u∧aY W u n f∧Rt W u:=by
 obtain ⟨h0,h1,h2,h3,h4,h5,h6⟩:=h
 have ge:∀i y,T[i]? = some y→∃z,T'[i]? = some z∧VR E y z:=fun i y hy=>lr.get hy
 obtain ⟨z0,a0,b0⟩:=ge _ _ h1
 obtain ⟨u,a1,b1⟩:=ge _ _ h2
 obtain ⟨z2,a2,b2⟩:=ge _ _ h3
 obtain ⟨z3,a3,b3⟩:=ge _ _ h4
 obtain ⟨z4,a4,b4⟩:=ge _ _ h5
 obtain ⟨z5,a5,b5⟩:=ge _ _ h6
 obtain rfl:z0=.string s:=by cases h:z0 <;> rw[h] at b0 <;> cases b0 <;> rfl
 obtain rfl:z2=.int .u64 (seed:Nat):=by cases h:z2 <;> rw[h] at b2 <;> cases b2 <;> rfl
 obtain rfl:z3=.int .i64 tries:=by cases h:z3 <;> rw[h] at b3 <;> cases b3 <;> rfl
 obtain rfl:z4=.int .i64 ah:=by cases h:z4 <;> rw[h] at b4 <;> cases b4 <;> rfl
 obtain rfl:z5=.int .i64 others:=by cases h:z5 <;> rw[h] at b5 <;> cases b5 <;> rfl
 obtain ⟨m1,m2⟩:=zy hv b1 m r
 exact ⟨u,⟨by rw[←lr.size];exact h0,a0,a1,a2,a3,a4,a5⟩,b1,m1,m2⟩
theorem Ao (T0:Array Value) (s:ByteArray) (v:Value) (n seed:Nat) (tries ah others:Int) (hT:PtA s v seed tries ah others T0) (f:Nat→Int) (W:World) (hv:aY W v n f) (rv:Rt W v) :
  ∃N gs' w' sl' t' q',∃(T:Array Value) (u:Value),runNT Try.prog N (crowd #[G (mkF 6 T0 [.code pB] .run) []] W none) #[]=(.next (crowd gs' w' sl'),t')∧gs'.size=1∧gs'[0]? = some (G (mkF 6 T [.code (az 2 pB)] .run) [])∧PtA s u seed tries ah others T∧aY W u n f∧Rt W u∧(∀b,b<W.heap.size→w'.heap[b]? = W.heap[b]?)∧w'.os=W.os∧w'.output=W.output∧W.heap.size≤w'.heap.size∧Qs Try.prog (fun _=>False) gs' t' q' 0 w'.heap.size:=by
 have m0:=hv
 obtain ⟨av,cv,rfl,nv,kv⟩:=hv
 obtain ⟨E1,wl1,av',c1,s1,b1,e1,r1,k1⟩:=fR (P:=Try.prog) (w:=W) (Cp.nil W).cq (fun b q s e=>by cases e) dG (f:=fun i=>.int .i64 (f i)) (fun i E=>.int _ _) kv rv
 have low:∀b q s o,E1 b=some (q,s,o)→o=false∧q<W.heap.size:=fun b q s o e=>by
  refine ⟨?_,?_⟩
  ·cases o with
   | false=>rfl
   | true=>exact absurd e (s1 b q s)
  ·rcases b1 b q s o e with e | e
   ·cases e
   ·exact e
 obtain ⟨Tl,lL,pl,_⟩:=fQ (E:=E1) hT r1 (fun _=>none) (fun i v e=>by cases e)
 have hin:=dA.start (c:=[]) (Post:=fun x w'=>PtA s (.slice av' n cv) seed tries ah others x) (P:=Try.prog) (E:=E1) (wl:=wl1) (w:=W) ⟨_,Try.func6⟩ lL c1.wr c1.big DT (oF BI) (fun τ=>kO (uI _ s _ seed tries ah others pl (wl1.tp τ)))
 obtain ⟨N,gs',w',sl',t',q',E',X,y,wl2',r,z,i,po,lr,wr,big,fc,Q⟩:=gz (Sn:=fun _=>False) (q:=fun _=>0) (d:=0) (gs:=#[G (mkF 6 T0 [.code pB] .run) []]) (t:=#[]) (sl:=none) (Nat.le_refl _) cV (fun b x e hs=>hs) (fun b hb=>hb.elim) rfl hin (Bc _ _ _ _)
 obtain ⟨u,pt,_,m1,m2⟩:=PtA.back po lr (r1.mono fc.le) m0 rv
 exact ⟨N,gs',w',sl',t',q',y,u,r,by rw[z];rfl,i,pt,m1,m2,fun b hb=>fc.keep b hb fun b' s e=>(by have:=(low _ _ _ _ e).1;cases this),fc.os,fc.output,fc.size,Q⟩
end Cs
end
end Go.Proofs.Ytpdemelchhkfaaa
