/-
  Several texts, joined: OPl, OSame, OBack, RoTu.
-/
import Derived.Test.YtkohhdkkbaifoaaGreatDoorORWr
import Derived.Test.YtkohhdkkbaifoaaGreatDoorJn4
import Derived.Deep.QuietTactic
import Derived.BigQuiet
import Derived.RegionTactic
/-
  Slices of permutations; the document's Turned and All (chapter 8).
-/
namespace Go.Proofs.YtkohhdkkbaifoaaGreatDoor
open Go.RowKit PK

def flat (P:Nat→Nat→Nat):Nat→Int:=fun i=>(P (i / 26) (i % 26):Nat)
def PermsAt (W:World) (v:Value) (m:Nat) (P:Nat→Nat→Nat):Prop:=∃g o cap,v=.slice (some ⟨g,o,none⟩) m cap∧W.rangeAt g o (ints (m*26) (flat P)).toList
theorem PermsAt.below {w w':World} {v:Value} {m:Nat} {P:Nat→Nat→Nat} (h:PermsAt w v m P) (hb:Below w.heap.size w w'):PermsAt w' v m P:=by
 obtain ⟨g,o,cap,e,h⟩:=h
 exact ⟨g,o,cap,e,rangeAt_below h hb⟩
theorem at_flat {W:World} {g o m:Nat} {P:Nat→Nat→Nat} (h:W.rangeAt g o (ints (m*26) (flat P)).toList) {r:Nat} (hr:r<m):W.rangeAt g (o+r*26) (ints 26 (Pm.up (P r))).toList:=fun j v hv=>by
 rw[Array.getElem?_toList] at hv
 obtain ⟨h1,rfl⟩:=at_ints hv
 have h2:=h (r*26+j) (.int .i64 (flat P (r*26+j))) (by rw[Array.getElem?_toList];exact ints_get _ (by omega))
 have e1:(r*26+j) / 26=r:=by omega
 have e2:(r*26+j) % 26=j:=by omega
 unfold flat at h2
 rw[e1,e2,←Nat.add_assoc] at h2
 exact h2
def thr (P:Nat→Nat→Nat):Nat→Nat→Nat
 | 0,c=>c
 | k+1,c=>P k (thr P k c)
theorem thr_lt {P:Nat→Nat→Nat} {m:Nat} (h:∀r,r<m→Pm.IsPerm (P r)) {c:Nat} (hc:c<26):∀k,k≤m→thr P k c<26
 | 0,_=>hc
 | k+1,hk=>(h k (by omega)).lt _ (thr_lt h hc k (by omega))
theorem o_tmod {x:Int} (h1:-26<x):x.tmod 26=if x<0 then x else x % 26:=by
 by_cases h:x<0
 ·rw[if_pos h]
  obtain ⟨y,rfl⟩:∃y:Nat,x=-(y:Int):=⟨(-x).toNat,by omega⟩
  rw[Int.neg_tmod,Int.tmod_eq_emod_of_nonneg (by omega)]
  omega
 ·rw[if_neg h,Int.tmod_eq_emod_of_nonneg (by omega)]
theorem o_turn (i:Nat) (b:Int) (h1:-26<b):(wrap64 (((i:Int)+b).tmod 26+26)).tmod 26=((i:Int)+b) % 26:=by
 rw[o_tmod (x:=(i:Int)+b) (by omega)]
 by_cases h:(i:Int)+b<0
 ·rw[if_pos h,←IntWalk.i64_left,IntWalk.i64_in _ (by omega),Int.tmod_eq_emod_of_nonneg (by omega)]
  omega
 ·rw[if_neg h,←IntWalk.i64_left,IntWalk.i64_in _ (by omega),Int.tmod_eq_emod_of_nonneg (by omega)]
  omega
structure TuAt (w W:World) (f:Nat→Int):Prop where
 r:RowAt W w.heap.size 27 (ints 26 fun _=>0)
 o:RowAt W (w.heap.size+1) 27 (ints 26 f)
 below:Below w.heap.size w W
theorem TuAt.new (w:World):TuAt w ((w.alloc (.cells (ints 26 fun _=>0) 27)).alloc (.cells (ints 26 fun _=>0) 27)) fun _=>0:=by
 have h3:=RowAt.new (w.alloc (.cells (ints 26 fun _=>0) 27)) 27 (ints 26 fun _=>0)
 simp only[World.size_alloc] at h3
 exact ⟨(RowAt.new w _ _).alloc _,h3,((Below.refl _ w).alloc (Nat.le_refl _) _).alloc (by simp only[World.size_alloc];omega) _⟩
theorem TuAt.set {w W:World} {f:Nat→Int} (h:TuAt w W f) (i:Nat) (v:Int):TuAt w (W.setCell ⟨w.heap.size+1,i,none⟩ (.int .i64 v)) (upd f i v):=by
 refine ⟨h.r.setOther _ _ (by simp),?_,h.below.setCell (p:=⟨w.heap.size+1,i,none⟩) (by simp) _⟩
 have:=h.o.set i (.int .i64 v)
 rw[ints_set] at this
 exact this
theorem o_results1 {P:Program} {fn:Func} {p:Tmp} {ty:TypeId} (h:fn.results=#[.cell p ty]) (tmps:Array Value) (w:World) (g:Nat) (t:TypeId) (cs:Array Value) (fr:Nat × Nat) (d:TypeDesc)
  (hp:tmps.getD p undef=.pointer (some ⟨g,0,none⟩)) (hg:w.heap[g]? = some (.cells cs t fr))
  (hu:P.underlying ty=some d) (hd:(match d with | .struct _ | .array _ _=>true | _=>false)=true) (hi:(P.info? ty).map (·.size)=some cs.size) :
  (results fn tmps).run P w=.ok (.agg cs) w:=by
 have hp':tmps[p]?.getD undef=.pointer (some ⟨g,0,none⟩):=by simpa using hp
 simp[results,h,hp',asAddr,run_loadVar_row w g t ty cs fr d hg hu hd hi]
set_option maxRecDepth 100000 in
set_option maxHeartbeats 1000000 in
theorem rturned_any (b:Int) (h1:-26<b) (h2:b<26) (w:World):Calls Tryz.prog 182 #[.int .i64 b] w fun e w'=>e=.returned (.agg (ints 26 fun i=>((i:Int)+b) % 26))∧Below w.heap.size w w':=by
 have hz26:=o_zero v_zero_perm
 have h0:=TuAt.new w
 go_enter Tryz.func182,Tryz.ntmps182
 go_wp2_with fail
 clear hz26
 go_loopw [5] (fun i V=>∃k:Nat,k≤26∧i=.int .i64 (k:Nat)∧TuAt w V fun c=>if c<k then ((c:Int)+b) % 26 else 0) (fun i _=>((26:Int)-intOf i).toNat)
 case atStart=>exact ⟨0,by omega,rfl,by simpa using h0⟩
 case round =>
  clear h0
  obtain ⟨k,hk,rfl,hg⟩:=hrel
  by_cases hlt:k<26
  ·have hck:=hg.o.cell (ints_get (fun c=>if c<k then ((c:Int)+b) % 26 else 0) hlt)
   have hfk:=hg.o.frozen k
   have HNX:Hid (TuAt w (wr.setCell ⟨w.heap.size+1,k,none⟩ (.int .i64 (((k:Int)+b) % 26))) fun c=>if c<k+1 then ((c:Int)+b) % 26 else 0):=by
    have h:=hg.set k (((k:Int)+b) % 26)
    have e:upd (fun c=>if c<k then ((c:Int)+b) % 26 else 0) k (((k:Int)+b) % 26)=fun c=>if c<k+1 then ((c:Int)+b) % 26 else 0:=by
     funext c
     unfold upd
     by_cases h1:c=k
     ·rw[if_pos h1,if_pos (by omega),h1]
     ·rw[if_neg h1]
      by_cases h2:c<k
      ·simp only[if_pos h2,if_pos (show c<k+1 by omega)]
      ·simp only[if_neg h2,if_neg (show ¬c<k+1 by omega)]
    rw[e] at h
    exact h
   have HT:Hid ((wrap64 (((k:Int)+b).tmod 26+26)).tmod 26=((k:Int)+b) % 26):=o_turn k b h1
   clear hg
   go_wp2_with fail
   go_roundw
   case rel=>exact ⟨k+1,by omega,by go_num,by rw[HT.out];exact HNX.out⟩
   case measure=>simp[intOf];omega
  ·obtain rfl:k=26:=by omega
   have hr:=hg.r
   have ho:RowAt wr (w.heap.size+1) 27 (ints 26 fun c=>((c:Int)+b) % 26):=by
    have:=hg.o
    rw[ints_ext (g:=fun c=>((c:Int)+b) % 26) fun c hc=>by rw[if_pos hc]] at this
    exact this
   have hbe:=hg.below
   clear hg
   go_wp2_with (first | refine wpList_load_row rfl 27 _ rfl (w.heap.size+1) rfl 27 (ints 26 fun c=>((c:Int)+b) % 26) (0,0) _ ho Tryz.underlying27 rfl (by rw[ints_size];exact info_perm) ?_ | refine wpList_store_row rfl 27 _ _ rfl w.heap.size (ints 26 fun c=>((c:Int)+b) % 26) rfl rfl 27 _ hr (by rw[ints_size];exact info_perm) (by simp only[ints_size]) (ints_one _ _) ?_)
   exact bodyPost_ret (v:=.agg (ints 26 fun c=>((c:Int)+b) % 26)) (o_results1 Tryz.results182 _ _ _ _ _ _ _ rfl (hr.row _) Tryz.underlying27 rfl (by rw[ints_size];exact info_perm)) rfl ⟨rfl,Below.setRow hbe _ (Nat.le_refl _) _⟩
structure LlAt (w W:World) (g:Nat) (f:Nat→Int):Prop where
 r:RowAt W w.heap.size 27 (ints 26 fun _=>0)
 o:RowAt W g 27 (ints 26 f)
 ne:w.heap.size<g
 below:Below w.heap.size w W
theorem LlAt.alloc {w W:World} {g:Nat} {f:Nat→Int} (h:LlAt w W g f) (o:Obj):LlAt w (W.alloc o) g f:=⟨h.r.alloc o,h.o.alloc o,h.ne,h.below.alloc h.below.size o⟩
theorem LlAt.setRow {w W:World} {g:Nat} {f:Nat→Int} (h:LlAt w W g f) (q:Nat) (hq:g<q) (l:Array Value):LlAt w (W.setRow q l) g f:=by
 have:=h.ne
 exact ⟨h.r.rowOther _ _ (by omega),h.o.rowOther _ _ (by omega),h.ne,Below.setRow h.below _ (by omega) _⟩
theorem LlAt.set {w W:World} {g:Nat} {f:Nat→Int} (h:LlAt w W g f) (i:Nat) (v:Int):LlAt w (W.setCell ⟨g,i,none⟩ (.int .i64 v)) g (upd f i v):=by
 have hn:=h.ne
 refine ⟨h.r.setOther _ _ (by simp;omega),?_,h.ne,h.below.setCell (p:=⟨g,i,none⟩) (by simp;omega) _⟩
 have:=h.o.set i (.int .i64 v)
 rw[ints_set] at this
 exact this
theorem LlAt.ext {w W:World} {g:Nat} {f f2:Nat→Int} (h:LlAt w W g f) (e:∀i,i<26→f i=f2 i):LlAt w W g f2:=⟨h.r,by rw[←ints_ext e];exact h.o,h.ne,h.below⟩
set_option maxRecDepth 100000 in
set_option maxHeartbeats 2000000 in
theorem rall_any (v:Value) (m:Nat) (P:Nat→Nat→Nat) (hm:m≤1000) (hP:∀r,r<m→Pm.IsPerm (P r)) (w:World) (hv:PermsAt w v m P):Calls Tryz.prog 183 #[v] w fun e w'=>e=.returned (.agg (ints 26 (Pm.up (thr P m))))∧Below w.heap.size w w':=by
 obtain ⟨gv,ov,cap,rfl,hrg⟩:=hv
 have HRG:=(show Hid _ from hrg)
 have HT0:=(show Hid (∀W,Calls Tryz.prog 182 #[.int .i64 0] W fun e w'=>e=.returned (.agg (ints 26 (Pm.up (thr P 0))))∧Below W.heap.size W w') from fun W=>by
  have:=rturned_any 0 (by decide) (by decide) W
  rw[ints_ext (g:=Pm.up (thr P 0)) fun i hi=>by show ((i:Int)+0) % 26=((i:Nat):Int);omega] at this
  exact this)
 have HTL:=(show Hid (∀k,k≤m→∀c,c<26→thr P k c<26) from fun k hk c hc=>thr_lt hP hc k hk)
 have HPL:=(show Hid (∀k,k<m→∀c,c<26→P k c<26) from fun k hk c hc=>(hP k hk).lt c hc)
 have hz26:=o_zero v_zero_perm
 clear hrg
 go_enter Tryz.func183,Tryz.ntmps183
 go_wp2_with fail
 refine (HT0.out _).mono ?_
 rintro e W1 ⟨rfl,hb⟩
 have hr0:=(RowAt.new w 27 (ints 26 fun _=>0)).below hb (by simp)
 have hbw:Below w.heap.size w W1:=((Below.refl _ w).alloc (Nat.le_refl _) _).trans (hb.mono (by simp))
 have hlt1:=hr0.lt
 clear hb HT0
 go_upto_region 2 with (first | refine wpList_store_row rfl 27 _ _ rfl W1.heap.size (ints 26 (Pm.up (thr P 0))) rfl rfl 27 _ (RowAt.new W1 _ _) (by rw[ints_size];exact info_perm) (by simp only[ints_size]) (ints_one _ _) ?_)
 have hg0:LlAt w ((W1.alloc (.cells (ints 26 fun _=>0) 27)).setRow W1.heap.size (ints 26 (Pm.up (thr P 0)))) W1.heap.size (Pm.up (thr P 0)):=⟨(hr0.alloc _).rowOther _ _ (by omega),(RowAt.new W1 27 (ints 26 fun _=>0)).row _,hlt1,Below.setRow (hbw.alloc hbw.size _) _ (by omega) _⟩
 generalize (W1.alloc (.cells (ints 26 fun _=>0) 27)).setRow W1.heap.size (ints 26 (Pm.up (thr P 0)))=V at *
 obtain ⟨g,hgg⟩:∃g,g=W1.heap.size:=⟨_,rfl⟩
 rw[←hgg] at hg0 ⊢
 clear hgg hr0 hbw hlt1
 go_wp2_with fail
 go_loopw [10] (fun i W=>∃k:Nat,k≤m∧i=.int .i64 (k:Nat)∧LlAt w W g (Pm.up (thr P k))) (fun i _=>((m:Int)-intOf i).toNat)
 case atStart=>exact ⟨0,by omega,rfl,hg0⟩
 case round =>
  clear hg0
  obtain ⟨k,hk,rfl,hg⟩:=hrel
  by_cases hlt:k<m
  ·have hrk:=rangeAt_below (at_flat HRG.out hlt) hg.below
   have HTK:=(show Hid _ from HTL.out k hk)
   have HPK:=(show Hid _ from HPL.out k hlt)
   have HNX:Hid (∀c,thr P (k+1) c=P k (thr P k c)):=fun c=>rfl
   have HLT:Hid (k<m):=hlt
   obtain ⟨T2,hT2⟩:∃T2,T2=thr P (k+1):=⟨_,rfl⟩
   rw[←hT2] at HNX
   have HT2:Hid (T2=thr P (k+1)):=hT2
   clear hT2
   generalize thr P k=T at *
   generalize P k=p at *
   go_upto_region 5 with (first | refine wpList_load_arr rfl 27 _ rfl gv (ov+k*26) rfl (ints 26 (Pm.up p)) _ hrk Tryz.underlying27 rfl (by rw[ints_size];exact info_perm) ?_ | refine wpList_store_row rfl 27 _ _ rfl wr.heap.size (ints 26 (Pm.up p)) rfl rfl 27 _ (RowAt.new wr _ _) (by rw[ints_size];exact info_perm) (by simp only[ints_size]) (ints_one _ _) ?_)
   have hg2:=(hg.alloc (.cells (ints 26 fun _=>0) 27)).setRow wr.heap.size hg.o.lt (ints 26 (Pm.up p))
   have hp2:=(RowAt.new wr 27 (ints 26 fun _=>0)).row (ints 26 (Pm.up p))
   have hgq:=hg.o.lt
   generalize (wr.alloc (.cells (ints 26 fun _=>0) 27)).setRow wr.heap.size (ints 26 (Pm.up p))=V2 at *
   obtain ⟨q,hqq⟩:∃q,q=wr.heap.size:=⟨_,rfl⟩
   rw[←hqq] at hp2 hgq ⊢
   clear hqq hrk hg
   go_wp2_with fail
   go_loopw [14] (fun i W=>∃c:Nat,c≤26∧i=.int .i64 (c:Nat)∧LlAt w W g (fun j=>if j<c then (T2 j:Nat) else (T j:Nat))∧RowAt W q 27 (ints 26 (Pm.up p))) (fun i _=>((26:Int)-intOf i).toNat)
   case atStart=>exact ⟨0,by omega,rfl,hg2.ext fun i _=>by rw[if_neg (by omega)];rfl,hp2⟩
   case round =>
    clear hg2 hp2
    obtain ⟨c,hc,rfl,hg,hp⟩:=hrel
    by_cases hc2:c<26
    ·have ht:=HTK.out c hc2
     have c1:=hg.o.cell (ints_get (fun j=>if j<c then ((T2 j:Nat):Int) else ((T j:Nat):Int)) hc2)
     rw[if_neg (by omega)] at c1
     have c2:=hp.cell (ints_get (Pm.up p) ht)
     have f1:=hg.o.frozen c
     have HST:Hid (LlAt w (wr.setCell ⟨g,c,none⟩ (.int .i64 (Pm.up p (T c)))) g fun j=>if j<c+1 then ((T2 j:Nat):Int) else ((T j:Nat):Int)):=by
      refine (hg.set c (Pm.up p (T c))).ext fun i _=>?_
      unfold upd
      by_cases e:i=c
      ·rw[if_pos e,if_pos (by omega),e,HNX.out];rfl
      ·rw[if_neg e]
       show (if i<c then ((T2 i:Nat):Int) else ((T i:Nat):Int))=_
       by_cases e2:i<c
       ·rw[if_pos e2,if_pos (by omega)]
       ·rw[if_neg e2,if_neg (by omega)]
     have hp3:=hp.setOther ⟨g,c,none⟩ (.int .i64 (Pm.up p (T c))) (by simp;omega)
     have HST2:=(show Hid _ from hp3)
     clear hg hp hp3
     generalize T c=tc at *
     go_wp2_with fail
     go_roundw
     case rel=>exact ⟨c+1,by omega,by go_num,HST.out,HST2.out⟩
     case measure=>simp[intOf];omega
    ·obtain rfl:c=26:=by omega
     have hg3:LlAt w wr g (Pm.up T2):=hg.ext fun i hi=>by rw[if_pos hi];rfl
     clear hg
     go_wp2_with fail
     go_roundw
     case rel=>exact ⟨k+1,HLT.out,by go_num,by rw[←HT2.out];exact hg3⟩
     case measure=>have:=HLT.out;simp[intOf];omega
  ·obtain rfl:k=m:=by omega
   have hr:=hg.r
   have ho:=hg.o
   have hbe:=hg.below
   clear hg
   obtain ⟨F,hF⟩:∃F,F=Pm.up (thr P k):=⟨_,rfl⟩
   rw[←hF] at ho
   have HF:Hid (F=Pm.up (thr P k)):=hF
   clear hF
   go_wp2_with (first | refine wpList_load_row rfl 27 _ rfl g rfl 27 (ints 26 F) (0,0) _ ho Tryz.underlying27 rfl (by rw[ints_size];exact info_perm) ?_ | refine wpList_store_row rfl 27 _ _ rfl w.heap.size (ints 26 F) rfl rfl 27 _ hr (by rw[ints_size];exact info_perm) (by simp only[ints_size]) (ints_one _ _) ?_)
   exact bodyPost_ret (v:=.agg (ints 26 F)) (o_results1 Tryz.results183 _ _ _ _ _ _ _ rfl (hr.row _) Tryz.underlying27 rfl (by rw[ints_size];exact info_perm)) rfl ⟨by rw[HF.out],Below.setRow hbe _ (Nat.le_refl _) _⟩
end Go.Proofs.YtkohhdkkbaifoaaGreatDoor

/-
  Contract of perm.Same.
-/
namespace Go.Proofs.YtkohhdkkbaifoaaGreatDoor
open Go.RowKit PK

def fill (a:Nat→Nat) (v:Nat→Int):Nat→Nat→Int
 | 0=>fun _=>0
 | k+1=>upd (fill a v k) (a k) (v k)
theorem taking_any (m:Nat) (cap:Array Value) (a:Nat→Nat) (v:Nat→Int) (ha:∀i,i<26→a i<26) (w:World) (hent:∀(args:Array Value) (W:World),(callFunc m args).run Tryz.prog W=.ok (.enter m args) W)
  (hp:∀i,i<26→∀W:World,Below w.heap.size w W→Calls Tryz.prog m (#[.int .i64 (i:Nat)]++cap) W fun e w'=>e=.returned (.tuple #[.int .i64 (a i:Nat),.int .i64 (v i)])∧Below W.heap.size W w') :
  Calls Tryz.prog 229 #[.func (.func m) #[] cap] w fun e w'=>e=.returned (.agg (ints 26 (fill a v 26)))∧Below w.heap.size w w':=by
 have HP:Hid (∀i,i<26→∀W:World,Below w.heap.size w W→Calls Tryz.prog m (#[.int .i64 (i:Nat)]++cap) W fun e w'=>e=.returned (.tuple #[.int .i64 (a i:Nat),.int .i64 (v i)])∧Below W.heap.size W w'):=hp
 clear hp
 go_enter Tryz.func229,Tryz.ntmps229
 go_wp2
 rw[zero26]
 go_loopw [7] (fun i W=>∃k:Nat,k≤26∧i=.int .i64 k∧RowAt W w.heap.size 27 (ints 26 fun _=>0)∧RowAt W (w.heap.size+1) 27 (ints 26 (fill a v k))∧Below w.heap.size w W) (fun i _=>(26-intOf i).toNat)
 case atStart =>
  refine ⟨0,by omega,rfl,(RowAt.new w _ _).alloc _,?_,((Below.refl _ _).alloc (Nat.le_refl _) _).alloc (by simp) _⟩
  have:=RowAt.new (w.alloc (Obj.cells (ints 26 fun _=>0) 27)) 27 (ints 26 fun x=>0)
  rw[World.size_alloc] at this
  exact this
 case round =>
  obtain ⟨k,hk,rfl,hrow0,hrow,hb⟩:=hrel
  by_cases hlt:k<26
  ·have ha':=ha k hlt
   have hsz:=hb.size
   have h1:=hrow.lt
   have HW:=HP.out k hlt wr hb
   have HV:Hid (Calls Tryz.prog m (#[.int .i64 (k:Nat)]++cap) wr fun e w'=>e=.returned (.tuple #[.int .i64 (a k:Nat),.int .i64 (v k)])∧Below wr.heap.size wr w'):=HW
   clear HW
   obtain ⟨n,hn⟩:∃n:Nat,n=a k:=⟨_,rfl⟩
   rw[←hn] at HV ha'
   have HNN:Hid (n=a k):=hn
   clear hn
   go_wp2_with fail
   refine HV.out.mono ?_
   rintro e w1 ⟨rfl,hb1⟩
   have hrow1:=hrow.below hb1 h1
   have hc:=hrow1.cell (ints_get (fill a v k) ha')
   have hf:=hrow1.frozen n
   go_wp2
   go_roundw
   case rel =>
    refine ⟨k+1,by omega,by go_num,?_,?_,?_⟩
    ·exact (hrow0.below hb1 hrow0.lt).setOther _ _ (by simp)
    ·have:=hrow1.set n (.int .i64 (v k))
     rw[ints_set] at this
     show RowAt _ _ _ (ints 26 (upd (fill a v k) (a k) (v k)))
     rw[←HNN.out]
     exact this
    ·exact (hb.trans (hb1.mono hsz)).setCell (by simp) _
   case measure=>simp[intOf];omega
  ·have HK:Hid (k=26):=by rw[Hid];omega
   have h1:=hrow.lt
   go_wp2_with (first
    | refine wpList_load_row rfl 27 _ rfl (w.heap.size+1) rfl 27 (ints 26 (fill a v k)) (0,0) _ hrow Tryz.underlying27 rfl (by rw[ints_size];exact info_perm) ?_
    | refine wpList_store_row rfl 27 _ _ rfl w.heap.size (ints 26 (fill a v k)) rfl rfl 27 _ hrow0 (by rw[ints_size];exact info_perm) (by simp only[ints_size]) (ints_one _ _) ?_)
   refine bodyPost_ret (v:=.agg (ints 26 (fill a v k))) (results_cell_row rfl _ _ w.heap.size 27 _ (0,0) _ rfl (hrow0.row _) Tryz.underlying27 rfl (by rw[ints_size];exact info_perm)) rfl ⟨by rw[HK.out],Below.setRow hb _ (Nat.le_refl _) _⟩
theorem fill_at (a:Nat→Nat) (v:Nat→Int) (hi:∀i j,i<26→j<26→a i=a j→i=j):∀k,k≤26→∀i,i<k→fill a v k (a i)=v i
 | 0,_,i,h=>by omega
 | k+1,hk,i,h=>by
  show upd (fill a v k) (a k) (v k) (a i)=v i
  by_cases e:i=k
  ·subst e;simp
  ·rw[upd_other _ _ (fun e2=>e (hi i k (by omega) (by omega) e2))]
   exact fill_at a v hi k (by omega) i (by omega)
end Go.Proofs.YtkohhdkkbaifoaaGreatDoor

/-
  Contract of perm.Back.
-/
namespace Go.Proofs.YtkohhdkkbaifoaaGreatDoor
open Go.RowKit PK

theorem firstWrong_any (fs:Nat→Nat→Int) (n:Nat) (hn:n≤2) (b:Nat) (w:World) (hbw:b<w.heap.size) (hr:∀k,k<n→w.rangeAt b (k*26) (ints 26 (fs k)).toList) :
  Calls Tryz.prog 194 #[.slice (some ⟨b,0,none⟩) n n] w fun e w'=>e=.returned (.int .i64 (Pm.firstBad fs n))∧Below w.heap.size w w':=by
 have HR:Hid (∀k,k<n→w.rangeAt b (k*26) (ints 26 (fs k)).toList):=hr
 clear hr
 go_enter Tryz.func194,Tryz.ntmps194
 go_wp2
 go_loopw [8] (fun i W=>∃k:Nat,k≤n∧i=.int .i64 k∧Hid (Pm.firstBad fs k=0)∧Below w.heap.size w W) (fun i _=>(n-intOf i).toNat)
 case atStart=>exact ⟨0,by omega,rfl,rfl,Below.refl _ _⟩
 case round =>
  obtain ⟨k,hk,rfl,HN,hb⟩:=hrel
  have hsz:=hb.size
  by_cases hlt:k<n
  ·have HC:Hid (wr.rangeAt b (k*26) (ints 26 (fs k)).toList):=Below.rangeAt hb (HR.out k hlt) hbw
   have hX:Pm.wrong (fs k)=0∨(Pm.wrong (fs k) != 0)=true:=by by_cases e:Pm.wrong (fs k)=0 <;> simp[e]
   obtain ⟨x,hx⟩:∃x,x=Pm.wrong (fs k):=⟨_,rfl⟩
   rw[←hx] at hX
   have HX:Hid (x=Pm.wrong (fs k)):=hx
   clear hx
   have hcall:∀W:World,Calls Tryz.prog 114 #[.agg (ints 26 (fs k))] W fun e w'=>e=.returned (.int .i64 x)∧Below W.heap.size W w':=fun W=>by rw[HX.out];exact wrong_any (fs k) W
   have HL:Hid (∀W:World,Calls Tryz.prog 114 #[.agg (ints 26 (fs k))] W fun e w'=>e=.returned (.int .i64 x)∧Below W.heap.size W w'):=hcall
   clear hcall
   rcases hX with rfl | hX
   ·go_wp2_with (first
     | refine wpList_load_mid rfl 27 _ rfl b (k*26) rfl (ints 26 (fs k)).toList _ HC.out Tryz.underlying27 rfl (by rw[Array.length_toList,ints_size];exact info_perm) ?_
     | (refine wpList_store_row rfl 27 _ _ rfl wr.heap.size (ints 26 (fs k)) rfl rfl 27 _ (RowAt.new wr _ _) (by rw[ints_size];exact info_perm) (by rw[ints_size];rfl) (ints_one _ _) ?_;rw[World.setRow_alloc_new])
     | refine wpList_load_row rfl 27 _ rfl wr.heap.size rfl 27 (ints 26 (fs k)) (0,0) _ (RowAt.new wr _ _) Tryz.underlying27 rfl (by rw[ints_size];exact info_perm) ?_
     | (go_at_call 114;refine (HL.out _).mono ?_;rintro e w1 ⟨rfl,hb1⟩))
    go_roundw
    case rel=>exact ⟨k+1,by omega,by go_num,by rw[Hid,Pm.firstBad_succ fs k HN.out];exact HX.out.symm,(hb.alloc hsz _).trans (hb1.mono (by simp;omega))⟩
    case measure=>simp[intOf];omega
   ·go_wp2_with (first
     | refine wpList_load_mid rfl 27 _ rfl b (k*26) rfl (ints 26 (fs k)).toList _ HC.out Tryz.underlying27 rfl (by rw[Array.length_toList,ints_size];exact info_perm) ?_
     | (refine wpList_store_row rfl 27 _ _ rfl wr.heap.size (ints 26 (fs k)) rfl rfl 27 _ (RowAt.new wr _ _) (by rw[ints_size];exact info_perm) (by rw[ints_size];rfl) (ints_one _ _) ?_;rw[World.setRow_alloc_new])
     | refine wpList_load_row rfl 27 _ rfl wr.heap.size rfl 27 (ints 26 (fs k)) (0,0) _ (RowAt.new wr _ _) Tryz.underlying27 rfl (by rw[ints_size];exact info_perm) ?_
     | (go_at_call 114;refine (HL.out _).mono ?_;rintro e w1 ⟨rfl,hb1⟩))
    go_ret
    exact ⟨ret_int (HX.out.trans (Pm.firstBad_stop fs k n HN.out (by rw[←HX.out];simpa using hX) hlt).symm),(hb.alloc hsz _).trans (hb1.mono (by simp;omega))⟩
  ·have HK:Hid (k=n):=by rw[Hid];omega
   go_wp2
   go_ret
   exact ⟨ret_int (by rw[←HK.out];exact HN.out.symm),hb⟩
theorem zero_perm:(Tryz.prog.info? 27).map (fun i=>(i.zero,i.size))=some (some (.agg (ints 26 fun _=>0)),26):=by kernel_rfl
theorem fill_perm (p:Nat→Nat) (hp:Pm.IsPerm p) (v:Nat→Int):ints 26 (fill p v 26)=ints 26 fun j=>v (Pm.inv p j):=ints_ext fun j hj=>by
 have h:=hp.inv_spec j hj
 have:=fill_at p v hp.inj 26 (Nat.le_refl _) (Pm.inv p j) h.1
 rw[h.2] at this
 exact this
theorem fill_back (p:Nat→Nat) (hp:Pm.IsPerm p):ints 26 (fill p (Pm.up fun i=>i) 26)=ints 26 (Pm.up (Pm.inv p)):=fill_perm p hp _
theorem one_ok (p:Nat→Nat) (hp:Pm.IsPerm p):Pm.firstBad (fun _=>Pm.up p) 1=0:=(Pm.firstBad_succ (fun _=>Pm.up p) 0 rfl).trans (Pm.wrong_up p hp)
theorem back1_any (p:Nat→Nat) (i:Nat) (hi:i<26) (bp:Nat) (w:World) (hrp:RowAt w bp 27 (ints 26 (Pm.up p))) :
  Calls Tryz.prog 240 #[.int .i64 (i:Int),.pointer (some ⟨bp,0,none⟩)] w fun e w'=>e=.returned (.tuple #[.int .i64 (p i:Nat),.int .i64 (i:Int)])∧Below w.heap.size w w':=by
 have hc1:=hrp.cell (ints_get (Pm.up p) hi)
 simp only[Pm.up] at hc1
 clear hrp
 go_enter Tryz.func240,Tryz.ntmps240
 go_wp2
 go_ret2
 exact ⟨rfl,rfl,rfl,rfl,Nat.le_refl _,fun _ _=>rfl⟩
theorem back_ok (p:Nat→Nat) (hp:Pm.IsPerm p) (w:World) :
  Calls Tryz.prog 216 #[.agg (ints 26 (Pm.up p))] w fun e w'=>e=.returned (.tuple #[.agg (ints 26 (Pm.up (Pm.inv p))),.int .i64 0])∧Below w.heap.size w w':=by
 have H0:Hid (Pm.firstBad (fun _=>Pm.up p) 1=0):=one_ok p hp
 have hmf:∀(fn:Fn) (first cap:Array Value) (w:World),(Instr.makeFunc fn first cap).run Tryz.prog w=.ok (.func fn first cap) w:=fun _ _ _ _=>rfl
 go_enter Tryz.func216,Tryz.ntmps216
 go_wp2_with (first
  | refine wpList_load_row rfl 27 _ rfl w.heap.size rfl 27 (ints 26 (Pm.up p)) (0,0) _ ((RowAt.new w _ _).alloc _) Tryz.underlying27 rfl (by rw[ints_size];exact info_perm) ?_
  | refine wpList_build1 rfl 200 27 _ rfl 26 (Pm.up p) rfl (by decide) Tryz.underlying200 zero_perm (by decide) ?_)
 rw[zero26]
 refine (firstWrong_any (fun _=>Pm.up p) 1 (by decide) _ _ (by simp) (range_one (RowAt.newAt (by simp)))).mono ?_
 rintro e W1 ⟨rfl,hb0⟩
 obtain ⟨r1,r3,hb1,hs1⟩:=after1 hb0
 clear hb0
 rw[H0.out]
 go_wp2_with fail
 refine (taking_any 240 #[.pointer (some ⟨w.heap.size,0,none⟩)] p (Pm.up fun i=>i) hp.lt _ (by intro args W;go_simp) (fun i hi W hW=>back1_any p i hi _ W (r1.below hW (by omega)))).mono ?_
 rintro e W2 ⟨rfl,hb2⟩
 rw[fill_back p hp]
 have hs2:=hb2.size
 have hrow:=r3.below hb2 (by omega)
 go_wp2_with (refine wpList_store_row rfl 27 _ _ rfl (w.heap.size+1) (ints 26 (Pm.up (Pm.inv p))) rfl rfl 27 _ hrow (by rw[ints_size];exact info_perm) (by simp only[ints_size]) (ints_one _ _) ?_)
 exact bodyPost_ret (v:=.tuple #[.agg (ints 26 (Pm.up (Pm.inv p))),.int .i64 0]) (results_cell_tmp2 rfl _ _ (w.heap.size+1) 27 _ (0,0) _ _ rfl rfl (hrow.row _) Tryz.underlying27 rfl (by rw[ints_size];exact info_perm)) rfl ⟨rfl,Below.setRow (hb1.trans (hb2.mono (by omega))) _ (by omega) _⟩
end Go.Proofs.YtkohhdkkbaifoaaGreatDoor

/-
  Contract of rotor.turning.
-/
namespace Go.Proofs.YtkohhdkkbaifoaaGreatDoor
open Go.RowKit PK Vg

def nof:Nat→Bool:=fun _=>false
def noz:Nat→Nat:=fun _=>0
theorem v_info_wl:(Tryz.prog.info? 188).map (·.size)=some 80:=by kernel_rfl
theorem v_zero_wl:(Tryz.prog.info? 188).map (·.zero)=some (some (.agg (wlA noz noz nof 0 0))):=by kernel_rfl
theorem built_wl (p q:Nat→Nat) (r s:Nat):Tryz.prog.built 188 [(0,.agg (ints 26 (Pm.up p))),(1,.agg (ints 26 (Pm.up q))),(3,.int .i64 (r:Nat)),(4,.int .i64 (s:Nat))]=some (wlA p q nof r s):=by kernel_rfl
section
variable {P:Program}
theorem wpList_buildA {ops:Array Oper} {rest:List Oper} {op:Oper} {a:Act} {w:World} {Q:Exit→Act→World→Prop} (hgd:op.guard=none) (t:TypeId) (xs:List (Nat × Operand)) (ho:op.op=.build t xs.toArray) (vs:List (Nat × Value)) (hv:xs.map (fun x=>(x.1,a.eval x.2))=vs)
  (cells:Array Value) (hb:P.built t vs=some cells) (h:wpList P ops Q rest (a.put op.dst (.agg cells)) w):wpList P ops Q (op :: rest) a w :=
 wpList_plain hgd fun _ hK=>by
  unfold Oper.wp execOp
  have hm:xs.toArray.map (fun (i,x)=>(i,a.eval x))=vs.toArray:=by rw[←hv];simp
  simp only[ho,Sem.run_bind,hm,run_build w t vs.toArray cells hb,Result.andThen_ok]
  exact hK _ _ h
end
theorem take_no {l:List Nat} {k:Nat} (h:k<l.length):upd (fun c=>(l.take k).contains c) (l.getD k 0) true=fun c=>(l.take (k+1)).contains c:=by
 funext c
 rw[List.take_succ_eq_append_getElem h]
 have e:l.getD k 0=l[k]:=by simp[List.getD,h]
 rw[e]
 unfold upd
 by_cases h1:c=l[k]
 ·rw[if_pos h1,eq_comm,List.contains_iff_mem,List.mem_append,List.mem_singleton]
  exact .inr h1
 ·rw[if_neg h1,Bool.eq_iff_iff,List.contains_iff_mem,List.contains_iff_mem,List.mem_append,List.mem_singleton]
  exact ⟨.inl,fun h=>h.resolve_right h1⟩
theorem wlA_at {p b:Nat→Nat} {no:Nat→Bool} {ri at' k:Nat} (hk:k<26):(wlA p b no ri at')[52+k]? = some (.bool (no k)):=by
 unfold wlA
 rw[tab_get _ (by omega)]
 unfold wcl
 rw[if_neg (by omega),if_neg (by omega),if_pos (by omega),show 52+k-52=k by omega]
structure TnAt (w W:World) (u:Nat→Int) (v:Value) (q:Nat) (A:Array Value):Prop where
 par:RowAt W w.heap.size 97 (whl u v)
 res:RowAt W (w.heap.size+1) 188 (wlA noz noz nof 0 0)
 out:RowAt W q 188 A
 lt:w.heap.size+1<q
 below:Below w.heap.size w W
set_option maxRecDepth 100000 in
set_option maxHeartbeats 4000000 in
theorem turning_any (p:Nat→Nat) (hp:Pm.IsPerm p) (v:Value) (l:List Nat) (hl:∀k,k ∈ l→k<26) (ri st:Nat) (w:World) (hv:NumsAt w v l.length fun k=>(l.getD k 0:Nat)):Calls Tryz.prog 176 #[.agg (whl (Pm.up p) v),.int .i64 (ri:Nat),.int .i64 (st:Nat)] w fun e w'=>e=.returned (.agg (wlA p (Pm.inv p) (fun c=>l.contains c) ri st))∧Below w.heap.size w w':=by
 have hr:=RowAt.new w 97 (whl (Pm.up p) v)
 have hmid:=mid_wi (hr.alloc (.cells (wlA noz noz nof 0 0) 188))
 have hz80:=o_zero v_zero_wl
 have hz26:=o_zero v_zero_perm
 have HV:=(show Hid (NumsAt w v l.length fun k=>(l.getD k 0:Nat)) from hv)
 have HL:=(show Hid (∀k,k<l.length→l.getD k 0<26) from fun k hk=>hl _ (by rw[List.getD_eq_getElem?_getD,List.getElem?_eq_getElem hk];exact List.getElem_mem _))
 clear hl hv
 have h1:RowAt ((w.alloc (.cells (whl (Pm.up p) v) 97)).alloc (.cells (wlA noz noz nof 0 0) 188)) w.heap.size 97 (whl (Pm.up p) v):=hr.alloc _
 have h2:RowAt ((w.alloc (.cells (whl (Pm.up p) v) 97)).alloc (.cells (wlA noz noz nof 0 0) 188)) (w.heap.size+1) 188 (wlA noz noz nof 0 0):=by
  have:=RowAt.new (w.alloc (.cells (whl (Pm.up p) v) 97)) 188 (wlA noz noz nof 0 0)
  rw[World.size_alloc] at this
  exact this
 have hb0:Below w.heap.size w ((w.alloc (.cells (whl (Pm.up p) v) 97)).alloc (.cells (wlA noz noz nof 0 0) 188)):=((Below.refl _ w).alloc (Nat.le_refl _) _).alloc (by simp) _
 go_enter Tryz.func176,Tryz.ntmps176
 go_upto_region 1 with fail
 clear hr
 generalize (w.alloc (.cells (whl (Pm.up p) v) 97)).alloc (.cells (wlA noz noz nof 0 0) 188)=W0 at *
 go_wp2_with (first | refine wpList_load_arr rfl 27 _ rfl w.heap.size 0 rfl (ints 26 (Pm.up p)) _ hmid Tryz.underlying27 rfl (by rw[ints_size];exact info_perm) ?_)
 refine (back_ok p hp _).mono ?_
 rintro e V ⟨rfl,hb⟩
 have k1:=h1.below hb h1.lt
 have k2:=h2.below hb h2.lt
 have kb:=hb0.trans (hb.mono hb0.size)
 have kl:=k2.lt
 clear hb h1 h2 hb0 hmid
 go_upto_region 2 with (first | refine wpList_store_row rfl 27 _ _ rfl V.heap.size (ints 26 (Pm.up (Pm.inv p))) rfl rfl 27 _ (RowAt.new V _ _) (by rw[ints_size];exact info_perm) (by simp only[ints_size]) (ints_one _ _) ?_)
 have j1:=(k1.alloc (.cells (ints 26 fun _=>0) 27)).rowOther V.heap.size (ints 26 (Pm.up (Pm.inv p))) (by omega)
 have j2:=(k2.alloc (.cells (ints 26 fun _=>0) 27)).rowOther V.heap.size (ints 26 (Pm.up (Pm.inv p))) (by omega)
 have j3:=(RowAt.new V 27 (ints 26 fun _=>0)).row (ints 26 (Pm.up (Pm.inv p)))
 have jb:=Below.setRow (kb.alloc kb.size (.cells (ints 26 fun _=>0) 27)) V.heap.size kb.size (ints 26 (Pm.up (Pm.inv p)))
 generalize (V.alloc (.cells (ints 26 fun _=>0) 27)).setRow V.heap.size (ints 26 (Pm.up (Pm.inv p)))=U at *
 obtain ⟨q7,hq7⟩:∃q,q=V.heap.size:=⟨_,rfl⟩
 rw[←hq7] at j3 kl ⊢
 clear hq7 k1 k2 kb hz26
 have hmid:=mid_wi j1
 have jl:=j3.lt
 go_upto_region 3 with (first | refine wpList_buildA rfl 188 [(0,.tmp 19),(1,.tmp 20),(3,.tmp 21),(4,.tmp 22)] rfl [(0,.agg (ints 26 (Pm.up p))),(1,.agg (ints 26 (Pm.up (Pm.inv p)))),(3,.int .i64 (ri:Nat)),(4,.int .i64 (st:Nat))] rfl _ (built_wl p (Pm.inv p) ri st) ?_ | refine wpList_load_arr rfl 27 _ rfl w.heap.size 0 rfl (ints 26 (Pm.up p)) _ hmid Tryz.underlying27 rfl (by rw[ints_size];exact info_perm) ?_ | refine wpList_load_row rfl 27 _ rfl q7 rfl 27 (ints 26 (Pm.up (Pm.inv p))) (0,0) _ j3 Tryz.underlying27 rfl (by rw[ints_size];exact info_perm) ?_ | refine wpList_store_row rfl 188 _ _ rfl U.heap.size (wlA p (Pm.inv p) nof ri st) rfl rfl 188 _ (RowAt.new U _ _) (by rw[wlA_size];exact v_info_wl) (by simp only[wlA_size]) (wlA_one _ _ _ _ _) ?_)
 have hg:TnAt w ((U.alloc (.cells (wlA noz noz nof 0 0) 188)).setRow U.heap.size (wlA p (Pm.inv p) nof ri st)) (Pm.up p) v U.heap.size (wlA p (Pm.inv p) nof ri st) :=
  ⟨(j1.alloc _).rowOther _ _ (by omega),(j2.alloc _).rowOther _ _ (by omega),(RowAt.new U _ _).row _,by omega,Below.setRow (jb.alloc jb.size _) _ jb.size _⟩
 generalize (U.alloc (.cells (wlA noz noz nof 0 0) 188)).setRow U.heap.size (wlA p (Pm.inv p) nof ri st)=X at *
 obtain ⟨q,hq⟩:∃q,q=U.heap.size:=⟨_,rfl⟩
 rw[←hq] at hg ⊢
 clear hq j1 j2 j3 jb hmid hz80 kl jl
 have hvl:=hg.par.cell (whl_last (Pm.up p) v)
 obtain ⟨av,cv,rfl,hmv,hcv⟩:=HV.out
 have HC:=(show Hid (∀c,c<l.length→∃b o,av=some ⟨b,o,none⟩∧w.cell? ⟨b,o+c,none⟩=some (.int .i64 (l.getD c 0:Nat))) from hcv)
 unfold maxLen at hmv
 clear HV hcv
 go_wp2_with fail
 clear hvl
 go_loopw [27] (fun i W=>∃k:Nat,k≤l.length∧i=.int .i64 (k:Nat)∧TnAt w W (Pm.up p) (.slice av l.length cv) q (wlA p (Pm.inv p) (fun c=>(l.take k).contains c) ri st)) (fun i _=>((l.length:Int)-intOf i).toNat)
 case atStart=>exact ⟨0,by omega,rfl,hg⟩
 case round =>
  clear hg
  obtain ⟨k,hk,rfl,hg⟩:=hrel
  by_cases hlt:k<l.length
  ·have HLT:Hid (k<l.length):=hlt
   obtain ⟨b,o,rfl,hc0⟩:=HC.out k hlt
   have hc1:=(hg.below.cell (p:=⟨b,o+k,none⟩) (cell_block hc0)).trans hc0
   have hx:=HL.out k hlt
   have HT:=(show Hid _ from take_no hlt)
   generalize l.getD k 0=x at *
   have hck:=hg.out.cell (wlA_at (p:=p) (b:=Pm.inv p) (no:=fun c=>(l.take k).contains c) (ri:=ri) (at':=st) hx)
   have hfk:=hg.out.frozen (52+x)
   have HNX:Hid (TnAt w (wr.setCell ⟨q,52+x,none⟩ (.bool true)) (Pm.up p) (.slice (some ⟨b,o,none⟩) l.length cv) q (wlA p (Pm.inv p) (fun c=>(l.take (k+1)).contains c) ri st)):=by
    have hlq:=hg.lt
    refine ⟨hg.par.setOther _ _ (by show w.heap.size≠q;omega),hg.res.setOther _ _ (by show w.heap.size+1≠q;omega),?_,hg.lt,hg.below.setCell (p:=⟨q,52+x,none⟩) (by show w.heap.size≤q;omega) _⟩
    have:=hg.out.set (52+x) (.bool true)
    rw[wlA_no _ _ _ _ _ hx,HT.out] at this
    exact this
   clear hg hc0 HC
   go_wp2
   go_roundw
   case rel=>exact ⟨k+1,HLT.out,by go_num,HNX.out⟩
   case measure=>have:=HLT.out;simp[intOf];omega
  ·obtain rfl:k=l.length:=by omega
   have hnl:¬((l.length:Nat):Int)<((l.length:Nat):Int):=by omega
   have ho:=hg.out
   rw[List.take_length] at ho
   have hres:=hg.res
   have hbe:=hg.below
   obtain ⟨AA,hAA⟩:∃AA,AA=wlA p (Pm.inv p) (fun c=>l.contains c) ri st:=⟨_,rfl⟩
   have hsz:AA.size=80:=by rw[hAA,wlA_size]
   have hone:AA.all (·.oneCell')=true:=by rw[hAA];exact wlA_one _ _ _ _ _
   rw[←hAA] at ho
   have HAA:=(show Hid _ from hAA)
   clear hg HC hAA
   go_wp2_with (first | refine wpList_load_row rfl 188 _ rfl q rfl 188 AA (0,0) _ ho Tryz.underlying188 rfl (by rw[hsz];exact v_info_wl) ?_ | refine wpList_store_row rfl 188 _ _ rfl (w.heap.size+1) AA rfl rfl 188 _ hres (by rw[hsz];exact v_info_wl) (by simp only[wlA_size,hsz]) hone ?_)
   exact bodyPost_ret (v:=.agg AA) (o_results1 Tryz.results176 _ _ _ _ _ _ _ rfl (hres.row _) Tryz.underlying188 rfl (by rw[hsz];exact v_info_wl)) rfl ⟨by rw[HAA.out];simp only[List.contains_eq_mem],Below.setRow hbe _ (Nat.le_succ _) _⟩
end Go.Proofs.YtkohhdkkbaifoaaGreatDoor
