import Derived.Conc.LeavingOf
import Derived.Test.YtpdemelchhkfaaaJn31
namespace Go.Proofs.Ytpdemelchhkfaaa
section
open Go.RowKit PK
namespace Jm
noncomputable def vh (F:K→Int) (seed t:Nat):K:=up F (bgK ((seed+t) % 18446744073709551616) 25)
noncomputable def best (F:K→Int) (seed:Nat):Nat→Nat→Int
 | 0=>fun _=>0
 | m+1=>if m=0∨F (vh F seed m) > best F seed m 26 then clF (Pm.up (vh F seed m)) (F (vh F seed m)) m else best F seed m
theorem nH (F:K→Int) (seed m:Nat):best F seed (m+1)=if m=0∨F (vh F seed m) > best F seed m 26 then clF (Pm.up (vh F seed m)) (F (vh F seed m)) m else best F seed m:=rfl
end Jm
end
section
open Go.RowKit PK
namespace Jm
theorem Dt {F:(Nat→Nat)→Int} {key:Nat→Nat} (hk:∀i,i<26→key i<26):∀i,i<26→up F key i<26:=by
 unfold up
 split
 ·rename_i h
  exact h.choose_spec.ind (Q:=fun k=>∀i,i<26→k i<26) hk fun key a b h hab hb=>qT h (by omega) hb
 ·exact hk
end Jm
namespace Cs
theorem CN (s:ByteArray) (f:Nat→Int) (seed t:Nat):∀i,i<26→kE s f seed t i<26:=Jm.Dt (Jm.kN _ 25 (Nat.le_refl _))
theorem kz {s:ByteArray} (hs:Vg.Ls s.data.toList) (hl:s.size≤256) {f:Nat→Int} (hf:∀i,i<676→-1000≤f i∧f i≤1000) (seed:Nat):∀m,bdF (bdE s f seed (m+1))=Jm.best (sc s f) seed (m+1)∧(bdE s f seed (m+1)).tr<((m+1:Nat):Int)∧0≤(bdE s f seed (m+1)).tr∧(bdE s f seed (m+1))=⟨kK s f seed (bdE s f seed (m+1)).tr.toNat,kZ s f seed (bdE s f seed (m+1)).tr.toNat,(bdE s f seed (m+1)).tr⟩
 | 0=>by
  have hz:(-9223372036854775808:Int)<kZ s f seed 0:=by
   have:=(yt hs hl hf (CN s f seed 0)).1
   unfold kZ
   omega
  have e:bdE s f seed (0+1)=⟨kK s f seed 0,kZ s f seed 0,(0:Nat)⟩:=by
   show upB (kK s f seed) (kZ s f seed) bd0 0=_
   unfold upB
   rw[if_pos (.inl hz)]
  rw[e]
  exact ⟨by rw[Jm.nH,if_pos (.inl rfl)];rfl,by simp,by simp,rfl⟩
 | m+1=>by
  obtain ⟨i1,i2,i3,i4⟩:=kz hs hl hf seed m
  have e:bdE s f seed (m+1+1)=upB (kK s f seed) (kZ s f seed) (bdE s f seed (m+1)) (m+1):=by
   unfold bdE
   rw[List.range_succ,List.foldl_append]
   rfl
  have e26:Jm.best (sc s f) seed (m+1) 26=(bdE s f seed (m+1)).sc:=by rw[←i1];rfl
  generalize bdE s f seed (m+1)=b at *
  rw[e]
  unfold upB
  rw[Jm.nH,e26]
  by_cases h:b.sc<kZ s f seed (m+1)
  ·rw[if_pos (.inl h),if_pos (.inr h)]
   refine ⟨rfl,?_,?_,?_⟩
   ·show ((m+1:Nat):Int)<((m+1+1:Nat):Int)
    omega
   ·show (0:Int)≤((m+1:Nat):Int)
    omega
   ·show _=(⟨kK s f seed ((m+1:Nat):Int).toNat,kZ s f seed ((m+1:Nat):Int).toNat,_⟩:Bd)
    rw[Int.toNat_natCast]
  ·rw[if_neg (by omega),if_neg (by rintro (h2 | h2);omega;exact h h2)]
   exact ⟨i1,by omega,i3,i4⟩
end Cs
end
section
open Go.RowKit PK
theorem jU {P:Program} {ops:Array Oper} {Q:Exit→Act→World→Prop} {a:Act} {w:World} (k n:Nat) (hn:n=ops.size-k) (h:wpList P ops Q (ops.toList.drop k) a w):wpOps P ops Q (List.range' k n) a w:=by
 have e:=wpOps_eq_wpList (P:=P) (ops:=ops) (Q:=Q) (ops.toList.drop k) k (fun j=>by simp[List.getElem?_drop])
 rw[show (ops.toList.drop k).length=n by simp[hn]] at e
 rw[e]
 exact h
theorem oG:(Try.prog).stoodInHeld 43=false:=by kernel_rfl
theorem za (F:Nat→Int) (w:World) (d:Nat):(Op.equalIn (d+3) 43 (.agg (ints 28 F)) (.agg (ints 28 F))).run Try.prog w=.ok true w:=by
 have hs:(sizeOf 38).run Try.prog w=.ok 26 w:=by
  obtain ⟨i,hi,hz⟩:=Option.map_eq_some_iff.1 aC
  simp[sizeOf,typeInfo,hi,hz]
 have e0:∀z:Int,(Op.equalIn (d+2) 3 (.int .i64 z) (.int .i64 z)).run Try.prog w=.ok true w:=fun z=>by
  rw[Op.equalIn]
  simp[Sem.run_bind,run_underlying Try.underlying3]
 have e2:(Op.equalIn (d+2) 38 (.agg (ints 26 F)) (.agg (ints 26 F))).run Try.prog w=.ok true w:=by
  have:=kB (P:=Try.prog) w d 38 3 26 Try.underlying38 Try.underlying3 qE F F
  rw[x9] at this
  exact this
 have c0:(ints 28 F)[26]? = some (.int .i64 (F 26)):=aI F (by decide)
 have c1:(ints 28 F)[27]? = some (.int .i64 (F 27)):=aI F (by decide)
 have c2':((ints 28 F).extract 0 26)=ints 26 F:=by
  apply Array.ext_getElem?
  intro j
  by_cases hj:j<26
  ·rw[aI _ hj,Array.getElem?_extract,if_pos (by rw[af];omega),aI _ (by omega)]
   rw[show 0+j=j by omega]
  ·rw[Array.getElem?_eq_none (by simp[af];omega),Array.getElem?_eq_none (by simp[af];omega)]
 have hh:=oG
 generalize ints 28 F=cs at *
 generalize ints 26 F=c2 at *
 have hS:Try.prog.underlying 43=some (.struct (Try.prog.fieldsOf 43)):=by kernel_rfl
 rw[run_equalIn_struct w (d+2) 43 _ _ hS hh]
 simp only[Program.fieldsOf,Try.underlying43]
 clear hS hh
 go_simp
theorem gP (F:Nat→Int) (w:World):(Op.equalIn 10000 43 (.agg (ints 28 F)) (.agg (ints 28 F))).run Try.prog w=.ok true w:=za F w 9997
end
section
open Go.RowKit PK
theorem rA (z:Value) (n:Nat):madeCells #[z] n=tab n fun _=>z:=by
 unfold madeCells tab
 apply Array.ext
 ·simp
 ·intro i h1 h2
  simp[Nat.mod_one]
def alF (i:Nat):Int:=if i=1 then 5 else 0
def alS:ByteArray:=⟨#[65,66]⟩
theorem DR:ij alS 676 alF (Pm.up fun i=>i)=0:=by kernel_rfl
theorem D9:gZ alS 676 alF (Pm.up fun i=>i)=5:=by kernel_rfl
theorem Ba:(ints 676 fun _=>0).setIfInBounds 1 (.int .i64 5)=ints 676 alF:=by
 rw[ints_set]
 exact fK fun i _=>rfl
set_option maxRecDepth 100000 in
set_option maxHeartbeats 1000000 in
theorem pU (w:World):Calls Try.prog 15 #[] w fun e w'=>e=.returned (.bool true)∧Below w.heap.size w w':=by
 have hmk:=run_make_row' (P:=Try.prog) 22 3 (.int .i64 0) 8 Try.underlying22 sL rfl .i64 .i64 676 (by omega) (by omega) w
 rw[rA,show (tab 676 fun _=>.int .i64 0)=ints 676 fun _=>0 from rfl] at hmk
 have hmk:(Instr.makeSlice 22 (.int .i64 676) (.int .i64 676)).run Try.prog w=.ok (.slice (some ⟨w.heap.size,0,none⟩) 676 676) (w.alloc (.cells (ints 676 fun _=>0) 3)):=hmk
 have hx0:=ai.new w 3 (ints 676 fun _=>0)
 have hb0:=(Below.refl w.heap.size w).alloc (Nat.le_refl _) (.cells (ints 676 fun _=>0) 3)
 have c1:=hx0.cell (i:=1) (aI _ (by decide))
 have z1:=hx0.frozen 1
 go_enter Try.func15,Try.ntmps15
 go_upto_region 3 with fail
 rw[Ba]
 clear c1 z1 hx0 hb0 hmk
 have hx1:=ai.new w 3 (ints 676 alF)
 have hb1:=(Below.refl w.heap.size w).alloc (Nat.le_refl _) (.cells (ints 676 alF) 3)
 generalize w.alloc (.cells (ints 676 alF) 3)=W1 at *
 go_wp2_with fail
 refine (qH _).mono ?_
 rintro e W2 ⟨rfl,hb2⟩
 have hx2:=hx1.below hb2 hx1.lt
 have hv:aU W2 (.slice (some ⟨w.heap.size,0,none⟩) 676 676) 676 alF:=⟨_,_,rfl,by decide,fun c hc=>⟨_,0,rfl,by rw[Nat.zero_add];exact hx2.cell (aI _ hc)⟩⟩
 have hs:=qQ alS _ 676 alF (Pm.up fun i=>i) W2 hv
 rw[DR,D9] at hs
 go_wp2_with fail
 refine Calls.mono hs ?_
 rintro e W3 ⟨rfl,hb3⟩
 have HB:=(show Hid (Below w.heap.size w W3) from (hb1.trans (hb2.mono hb1.size)).trans (hb3.mono (hb1.trans (hb2.mono hb1.size)).size))
 clear hs hv hx2 hb3 hb2 hb1 hx1
 go_wp2_with fail
 go_ret
 exact ⟨rfl,HB.out⟩
end
section
open Go.RowKit PK
namespace Jm
theorem oE {key:Nat→Nat} (h:Pm.cR key) {a b:Nat} (ha:a<26) (hb:b<26):Pm.cR (sw key a b):=by
 have e:sw key a b=fun i=>key (if i=a then b else if i=b then a else i):=by
  funext i
  unfold sw
  split
  ·rfl
  ·split <;> rfl
 rw[e]
 refine Pm.cR.comp (p:=fun i=>if i=a then b else if i=b then a else i) ⟨fun i hi=>?_,fun i j hi hj e=>?_⟩ h
 ·split
  ·exact hb
  ·split <;> omega
 ·split at e <;> split at e <;> (try split at e) <;> (try split at e) <;> omega
theorem qV (s:Nat):∀j,j≤25→Pm.cR (bgK s j)
 | 0,_=>Pm.cR.id
 | j+1,h=>oE (qV s j (by omega)) (by omega) (by have:=sG s (j:=j) (by omega);omega)
theorem tJ {p:Nat × Nat} (hp:p ∈ prs 26 0):p.1<p.2∧p.2<26:=by
 unfold prs at hp
 simp only[List.mem_append,List.mem_flatMap,List.mem_map,List.mem_range] at hp
 rcases hp with ⟨c,hc,d,hd,rfl⟩ | ⟨d,hd,rfl⟩
 ·exact ⟨hd,hc⟩
 ·omega
theorem yA {F:(Nat→Nat)→Int} (hF:∀k:Nat→Nat,(∀i,i<26→k i<26)→-255000≤F k∧F k≤255000):∀(n:Nat) (key:Nat→Nat),(∀i,i<26→key i<26)→(255000-F key).toNat≤n→∃k,Ups F key k
 | n,key,hk,hn=>by
  by_cases h:(bst F key (prs 26 0)).2 > F key
  ·have h0:=(hF key hk).1
   have h2:=((uw F key (by omega) (prs 26 0)).2).resolve_left (by omega)
   have hb:∀i,i<26→(bst F key (prs 26 0)).1 i<26:=oN (Q:=fun k=>∀i,i<26→k i<26) F key hk _ fun p hp=>qT hk (by have:=tJ hp;omega) (tJ hp).2
   have h3:=(hF _ hb).2
   cases n with
   | zero=>omega
   | succ n =>
    obtain ⟨k,hu⟩:=yA hF n (bst F key (prs 26 0)).1 hb (by omega)
    exact ⟨k,.go h hu⟩
  ·exact ⟨key,.stop h⟩
end Jm
namespace Cs
section
variable {s:ByteArray} (hs:Vg.Ls s.data.toList) (hl:s.size≤256) {f:Nat→Int} (hf:∀i,i<676→-1000≤f i∧f i≤1000)
include hs hl hf
theorem yK (seed t:Nat):Jm.Ups (sc s f) (Jm.bgK ((seed+t) % 18446744073709551616) 25) (kE s f seed t):=by
 obtain ⟨k,hk⟩:=Jm.yA (F:=sc s f) (fun k hk=>yt hs hl hf hk) _ (Jm.bgK ((seed+t) % 18446744073709551616) 25) (Jm.kN _ 25 (Nat.le_refl _)) (Nat.le_refl _)
 unfold kE
 rw[hk.up]
 exact hk
theorem zv (seed t:Nat):Pm.cR (kE s f seed t):=(yK hs hl hf seed t).ind (Q:=Pm.cR) (Jm.qV _ 25 (Nat.le_refl _)) fun _ _ _ h hab hb=>Jm.oE h (by omega) hb
theorem Bm (seed t:Nat) {a b:Nat} (hab:a<b) (hb:b<26):sc s f (Jm.sw (kE s f seed t) a b)≤sc s f (kE s f seed t):=by
 have h1:=(yK hs hl hf seed t).top
 have h2:sc s f (Jm.sw (kE s f seed t) a b)≤_:=Jm.Bn (sc s f) (kE s f seed t) _ _ (Jm.zJ hab hb)
 omega
omit hl hf in
theorem Bl {n:Nat} {k:Nat→Nat} (hc:cwE s.data.toList n f=0) (hk:Pm.cR k):ij s n f (Pm.up k)=0∧gZ s n f (Pm.up k)=sc s f k:=by
 have h1:ij s n f (Pm.up k)=0:=by
  unfold ij
  rw[if_neg (by simp[hc])]
  exact Pm.xm k hk
 refine ⟨h1,?_⟩
 unfold gZ
 rw[if_neg (by simp[h1])]
 exact wX hs f fun i _=>by simp[Pm.up]
theorem wK (seed m:Nat):∃t:Nat,t<m+1∧bdE s f seed (m+1)=⟨kK s f seed t,kZ s f seed t,(t:Nat)⟩:=by
 obtain ⟨_,h1,h2,h3⟩:=kz hs hl hf seed m
 refine ⟨(bdE s f seed (m+1)).tr.toNat,by omega,?_⟩
 rw[Int.toNat_of_nonneg h2]
 exact h3
theorem wj (seed m:Nat):(bdE s f seed (m+1)).sc<(bdE s f seed (m+2)).sc∨bdE s f seed (m+2)=bdE s f seed (m+1):=by
 have h1:=(kz hs hl hf seed m).2.1
 have e:bdE s f seed (m+2)=upB (kK s f seed) (kZ s f seed) (bdE s f seed (m+1)) (m+1):=by
  unfold bdE
  rw[List.range_succ,List.foldl_append]
  rfl
 rw[e]
 unfold upB
 by_cases h:(bdE s f seed (m+1)).sc<kZ s f seed (m+1)
 ·rw[if_pos (.inl h)]
  exact .inl h
 ·rw[if_neg (by omega)]
  exact .inr rfl
end
end Cs
end
namespace Cs
open Go.Conc Go.RowKit PK
variable [Fns]
theorem dB.mid {P:Program} {Post:Array Value→World→Prop} {fB:FuncId} {c:List Frame} {ct:Code} {E:Env} {wl w:World} (hf:dK P fB) {x y:Array Value} (hx:LR E x y) (hw:WR P E wl w) (hb:Fns.G≤wl.heap.size) {todo todo':List Item} (ht:todo.all (aK P)=true) (hr:RT ct todo todo') (h:∀τ,ie P [ay P] Post (G (mkF fB x todo .run) [ay P]) (wl.tp τ)) :
  dB P Post fB c ct E (G (mkF fB x todo .run) [ay P]) wl (G (mkF fB y todo' .run) c) w:=⟨.top hf hx ht hr,hw,hb,fun τ _=>h τ⟩
omit [Fns]
section
variable {P:Program} {Post:Array Value→World→Prop} {cl:List Frame} {fn:FuncId} {x:Array Value} {w:World}
def gK (Post:Array Value→World→Prop) (e:Exit) (a:Act) (w:World):Prop:=e=.normal∧a.defers=[]∧Post a.tmps w
theorem nA {ops:Array Oper} {l:List Nat} {c:Code} (h:wpOps P ops (Exit.then (c.wp P (gK Post)) (gK Post)) l ⟨x,[]⟩ w):ie P cl Post (G (mkF fn x [.inRegion ops l,.code c] .run) cl) w:=by
 obtain ⟨e,a1,w1,hq,harr⟩:=wp_ops l ⟨x,[]⟩ w h (mkF fn #[] [] .run) [.code c] cl
 cases e with
 | normal =>
  obtain ⟨e2,a2,w2,⟨rfl,h1,h2⟩,harr2⟩:=hq (mkF fn #[] [] .run) [] cl
  obtain ⟨T,D⟩:=a2
  cases h1
  have s1:Steps P (lone ((mkF fn #[] [] .run).at ⟨x,[]⟩ [.inRegion ops l,.code c]) cl w) (lone ((mkF fn #[] [] .run).at a1 [.code c]) cl w1):=harr
  have s2:Steps P (lone ((mkF fn #[] [] .run).at a1 [.code c]) cl w1) (lone ((mkF fn #[] [] .run).at ⟨T,[]⟩ []) cl w2):=harr2
  obtain ⟨n,hn⟩:=s1.trans s2
  exact ⟨n,fn,T,w2,hn,h2⟩
 | exit id=>cases hq.1
 | goto l=>cases hq.1
 | ret=>cases hq.1
 | panic ch=>cases hq.1
 | outgrown=>cases hq.1
theorem mQ {ops:Array Oper} {l:List Nat} {c c2:Code} (h:wpOps P ops (Exit.then (c.wp P (Exit.then (c2.wp P (gK Post)) (gK Post))) (gK Post)) l ⟨x,[]⟩ w):ie P cl Post (G (mkF fn x [.inRegion ops l,.code c,.code c2] .run) cl) w:=by
 obtain ⟨e,a1,w1,hq,harr⟩:=wp_ops l ⟨x,[]⟩ w h (mkF fn #[] [] .run) [.code c,.code c2] cl
 cases e with
 | normal =>
  obtain ⟨e2,a2,w2,hq2,harr2⟩:=hq (mkF fn #[] [] .run) [.code c2] cl
  cases e2 with
  | normal =>
   obtain ⟨e3,a3,w3,⟨rfl,h1,h2⟩,harr3⟩:=hq2 (mkF fn #[] [] .run) [] cl
   obtain ⟨T,D⟩:=a3
   cases h1
   have s1:Steps P (lone ((mkF fn #[] [] .run).at ⟨x,[]⟩ [.inRegion ops l,.code c,.code c2]) cl w) (lone ((mkF fn #[] [] .run).at a1 [.code c,.code c2]) cl w1):=harr
   have s2:Steps P (lone ((mkF fn #[] [] .run).at a1 [.code c,.code c2]) cl w1) (lone ((mkF fn #[] [] .run).at a2 [.code c2]) cl w2):=harr2
   have s3:Steps P (lone ((mkF fn #[] [] .run).at a2 [.code c2]) cl w2) (lone ((mkF fn #[] [] .run).at ⟨T,[]⟩ []) cl w3):=harr3
   obtain ⟨n,hn⟩:=s1.trans (s2.trans s3)
   exact ⟨n,fn,T,w3,hn,h2⟩
  | exit id=>cases hq2.1
  | goto l=>cases hq2.1
  | ret=>cases hq2.1
  | panic ch=>cases hq2.1
  | outgrown=>cases hq2.1
 | exit id=>cases hq.1
 | goto l=>cases hq.1
 | ret=>cases hq.1
 | panic ch=>cases hq.1
 | outgrown=>cases hq.1
end
end Cs
namespace Cs
open Go.Conc PK Go.RowKit
section
variable {P:Program} {Sn:Nat→Prop} {gs:Array Goroutine} {t:Trace} {q:Nat→Nat} {size:Nat}
theorem Qs.A3 (h:Qs P Sn gs t q 0 size):∃B0,∀B,B0≤B→Past (snL Sn) B t:=by
 obtain ⟨B0,hB0⟩:=yE t
 refine ⟨B0,fun B hB=>⟨h.clean,fun i a ha _=>?_,fun i g hg0 hne hc=>?_,h.df,hB0 B hB⟩⟩
 ·obtain ⟨x,hx,hxa⟩:=touch_of ha
  by_cases hs:snL Sn a.loc
  ·obtain ⟨h1,h2⟩:=h.sn i x a hx hxa hs
   cases hk:a.kind with
   | plain=>exact absurd hk h1
   | said =>
    have:=knows_own hx
    rw[h2 hk] at this
    exact .inl this
   | atomic=>exact .inr ⟨hs,rfl⟩
  ·exact .inl (h.kn i x a hx hxa (.inl hs))
 ·obtain ⟨a,ha,_,hk⟩:=hc
  obtain ⟨x,hx,hxa⟩:=touch_of ha
  have hgx:x.g=g:=by
   rw[Trace.g?,hx] at hg0
   exact Option.some.inj hg0
  have hkn:Knows t 0 i:=by
   by_cases hs:snL Sn a.loc
   ·rcases hk with hk | hk
    ·obtain ⟨h1,h2⟩:=h.sn i x a hx hxa hs
     cases hk2:a.kind with
     | plain=>exact absurd hk2 h1
     | said=>exact absurd (hgx.symm.trans (h2 hk2)) hne
     | atomic=>exact absurd hk2 hk
    ·exact h.kn i x a hx hxa (.inr hk)
   ·exact h.kn i x a hx hxa (.inl hs)
  obtain ⟨j,z,h1,h2,h3⟩:=hkn
  refine ⟨j,by simp[Trace.g?,h1,h2],?_⟩
  rcases h3 with rfl | h3
  ·rw[hx] at h1
   cases h1
   exact absurd (hgx.symm.trans h2) hne
  ·exact h3
end
variable [Fns]
theorem oI {P:Program} {Sn:Nat→Prop} {Post:Value→World→Prop} (hG:P.globals.size≤Fns.G) (hC:bw P) {gs:Array Goroutine} {t:Trace} {q:Nat→Nat} {d:Nat} {g:Goroutine} {w:World} {sl:Option (Nat × Nat)} {c:List Frame} {E:Env} {gl:Goroutine} {wl:World} (hn:∀b x,E b=some x→¬Sn x.1) (hsn:∀b,Sn b→b<w.heap.size) (h0:gs[0]? = some g) (hin:bB P Post c E gl wl g w) (hq:Qs P Sn gs t q d w.heap.size) :
  ∃N gs' w' sl' t' q' E' gl' wl' g',runNT P N (crowd gs w sl) t=(.next (crowd gs' w' sl'),t')∧gs'.size=gs.size∧gs'[0]? = some g'∧bB P Post c E' gl' wl' g' w'∧Stop [ay P] gl'∧dL g'=dL g∧FC E E' w w'∧Qs P Sn gs' t' q' d w'.heap.size:=by
 have hnn:∀{E':Env} {w':World},FC E E' w w'→∀b x,E' b=some x→¬Sn x.1:=fun {E' w'} hf b x hx hs=>by
  obtain ⟨c,s,o⟩:=x
  rcases hf.fresh b c s o hx with h1 | ⟨h1,_⟩
  ·exact hn b _ h1 hs
  ·exact absurd (hsn c hs) (by omega)
 let Q:Nat→Goroutine→World→Prop:=fun d' g' w'=>d'=d∧∃E' gl' wl',bB P Post c E' gl' wl' g' w'∧Stop [ay P] gl'∧dL g'=dL g∧FC E E' w w'
 let I:Option { s:Gh // Acc (After P [ay P]) s }→Nat→Goroutine→World→Prop:=fun μ d' g' w'=>match μ with
  | some s=>d'=d∧∃E',bB P Post c E' s.1.1 s.1.2 g' w'∧dL g'=dL g∧FC E E' w w'
  | none=>False
 have fcAt:∀{E':Env} {w':World} (k:Nat),FC E E' w w'→FC E E' w (w'.at k):=fun k h=>⟨h.le,h.os,h.tape,h.output,h.size,h.keep,h.fresh⟩
 have fcAt':∀{E':Env} {w':World} (k:Nat),FC E E' w (w'.at k)→FC E E' w w':=fun k h=>⟨h.le,h.os,h.tape,h.output,h.size,h.keep,h.fresh⟩
 have a1:∀μ d' g' w' k,I μ d' g' w'→I μ d' g' (w'.at k):=fun μ d' g' w' k h=>by
  cases μ with
  | none=>exact h.elim
  | some s =>
   obtain ⟨h0,E',h1,h3,h2⟩:=h
   exact ⟨h0,E',h1.other fun _ _ _=>rfl,h3,fcAt k h2⟩
 have a2:∀d' g' w' k,Q d' g' (w'.at k)→Q d' g' w':=fun d' g' w' k h=>by
  obtain ⟨h1,E',gl',wl',k1,k2,k3,k4⟩:=h
  exact ⟨h1,E',gl',wl',k1.other fun _ _ _=>rfl,k2,k3,fcAt' k k4⟩
 have a3:∀μ d' g' w',I μ d' g' w'→g'.status=.running:=fun μ d' g' w' h=>by
  cases μ with
  | none=>exact h.elim
  | some s =>
   obtain ⟨_,E',h1,h3,h2⟩:=h
   exact h1.running
 have a4:∀μ d' g' w',I μ d' g' w'→Q d' g' w'∨∃g2 w2 es μ',stepG P true g' w'=.go g2 w2 es∧mG P μ' μ∧I μ' (deafBehind d' es) g2 w2∧w'.heap.size≤w2.heap.size∧∀e ∈ es,EvS Sn w2.heap.size e:=fun μ d' g' w' h=>by
  cases μ with
  | none=>exact h.elim
  | some s =>
   obtain ⟨rfl,E1,hin1,hl1,hf1⟩:=h
   by_cases hs:Stop [ay P] s.1.1
   ·exact .inl ⟨rfl,E1,_,_,hin1,hs,hl1,hf1⟩
   ·obtain ⟨E',gl',wl',g2,w2,es,hst,hin',haft,hev,hfc,hl2⟩:=hin1.Au hG hC true hs
    have hok:=fun e he=>lR (Sn:=Sn) hin'.wr (hnn (hf1.trans hfc)) (hev e he)
    exact .inr ⟨g2,w2,es,some ⟨(gl',wl'),ej hin'.live⟩,hst,.on haft,⟨deafBehind_still (fun e he=>(hok e he).2) _,E',hin',hl2.trans hl1,hf1.trans hfc⟩,hfc.size,fun e he=>(hok e he).1⟩
 obtain ⟨N,gs',w',sl',t',q',d',g',h1,h2,h3,⟨rfl,E',gl',wl',k1,k2,k3,k4⟩,h5⟩:=iC (P:=P) (mK P) I Q a1 a2 a3 a4 (μ:=some ⟨(gl,wl),ej hin.live⟩) (sl:=sl) h0 ⟨rfl,E,hin,rfl,FC.refl E w⟩ hq
 exact ⟨N,gs',w',sl',t',q',E',gl',wl',g',h1,h2,h3,k1,k2,k3,k4,h5⟩
theorem Du (E:Env) (g:Nat→Value):∃j:Nat→Value,∀i,VR E (j i) (g i):=⟨fun i=>(A7 E (g i)).choose,fun i=>(A7 E (g i)).choose_spec⟩
theorem xV {E:Env} {n:Nat} {f:Nat→Int}:LR E (ints n f) (ints n f):=by
 refine ⟨rfl,fun i a b ha hb=>?_⟩
 have hi:i<n:=by
  have:=(Array.getElem?_eq_some_iff.1 ha).1
  rwa [af] at this
 rw[aI f hi] at ha hb
 cases ha
 cases hb
 exact .int _ _
theorem zU {E:Env} {W:World} {a:Option Addr} {n c:Nat} {f:Nat→Int} {v u:Value} (h:VR E (.slice a n c) v) (h':VR E (.slice a n c) u) (hv:aU W v n f) (rv:Rt W v):aU W u n f∧Rt W u:=by
 by_cases hc:0<c∨0<n
 ·cases a with
  | none =>
   cases h
   cases h'
   ·exact ⟨hv,rv⟩
  | some ad =>
   have e:v=u:=by
    cases h with
    | bQ a b=>omega
    | slice l c ha =>
     cases h' with
     | bQ a b=>omega
     | slice l c hb =>
      rename_i b b'
      obtain ⟨b1,b2,b3⟩:=b
      obtain ⟨d1,d2,d3⟩:=b'
      obtain ⟨s,o,e1,e2,e3,_⟩:=ha
      obtain ⟨s',o',f1,f2,f3,_⟩:=hb
      dsimp only at e1 e2 e3 f1 f2 f3
      rw[e1] at f1
      cases f1
      subst e2 e3 f2 f3
      rfl
   subst e
   exact ⟨hv,rv⟩
 ·obtain rfl:c=0:=by omega
  obtain rfl:n=0:=by omega
  obtain ⟨av,cv,rfl,nv,kv⟩:=hv
  have hu:∃b,u=.slice b 0 0:=by
   cases h' <;> exact ⟨_,rfl⟩
  obtain ⟨b,rfl⟩:=hu
  exact ⟨⟨b,0,rfl,nv,fun c hc=>absurd hc (Nat.not_lt_zero _)⟩,fun a l c e hp=>by cases e;exact absurd hp (Nat.lt_irrefl _)⟩
end Cs
section
open Go.Conc
end
namespace Cs
open Go.Conc Go.RowKit PK
open Go.ConcR (KK WgAt wgBlock)
open Go.ConcM (OsLater)
def Kept (W W':World):Prop:=(∀b,b<W.heap.size→W'.heap[b]? = W.heap[b]?)∧OsLater W.os W'.os∧W'.output=W.output
end Cs
namespace Cs
open Go.Conc Go.RowKit PK
open Go.ConcR (KK WgAt wgBlock)
open Go.ConcM (OsLater)
end Cs
end Go.Proofs.Ytpdemelchhkfaaa
