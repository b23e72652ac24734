import Derived.Test.YtpdemelchhkfaaaJn9
namespace Go.Proofs.Ytpdemelchhkfaaa
section
open Go.RowKit PK
theorem aC:(Try.prog.info? 38).map (·.size)=some 26:=by kernel_rfl
theorem qQ:(Try.prog.info? 3).map (·.size)=some 1:=by kernel_rfl
theorem yz (f:Nat→Int) (k n:Nat) (h:f k=(n:Int)):gN 26 (upd (Pm.seen f k) n true)=gN 26 (Pm.seen f (k+1)):=uX fun i _=>by
 rw[Pm.uV,h]
 by_cases e:i=n
 ·subst e;simp
 ·rw[nG _ _ e]
  have:(n:Int)≠(i:Int):=by omega
  simp[this]
set_option maxHeartbeats 1000000 in
theorem uS (f:Nat→Int) (w:World):Calls Try.prog 29 #[.agg (ints 26 f)] w fun e w'=>e=.returned (.int .i64 (Pm.fU f))∧Below w.heap.size w w':=by
 go_enter Try.func29,Try.ntmps29
 go_wp2_with (refine wpList_load_row rfl 38 _ rfl w.heap.size rfl 38 (ints 26 f) (0,0) _ ((ai.new w _ _).alloc _) Try.underlying38 rfl (by rw[af];exact aC) ?_)
 rw[Bv]
 go_loopw [7] (fun i W=>∃k:Nat,k≤26∧i=.int .i64 k∧Hid (Pm.cQ f k=0)∧ai W (w.heap.size+1) 97 (gN 26 (Pm.seen f k))∧Below w.heap.size w W) (fun i _=>(26-intOf i).toNat)
 case atStart =>
  refine ⟨0,by omega,rfl,rfl,?_,((Below.refl _ _).alloc (Nat.le_refl _) _).alloc (by simp) _⟩
  have:=ai.new (w.alloc (Obj.cells (ints 26 f) 38)) 97 (gN 26 fun x=>false)
  rw[World.size_alloc] at this
  exact this
 case round =>
  obtain ⟨k,hk,rfl,HN,hrow,hb⟩:=hrel
  by_cases hlt:k<26
  ·have hg:=lW 38 3 26 Try.underlying38 Try.underlying3 qQ f k hlt
   by_cases hr:f k<0∨26≤f k
   ·have H:Hid (Pm.fU f=3):=by rw[Hid,Pm.mJ f k HN.out (by rw[Pm.nI f k hr];decide) hlt,Pm.nI f k hr]
    rcases hr with hr | hr
    ·go_wp2
     go_ret
     exact ⟨lB H.out.symm,hb⟩
    ·have hr0:¬f k<0:=by omega
     go_wp2
     go_ret
     exact ⟨lB H.out.symm,hb⟩
   ·obtain ⟨n,hn⟩:∃n:Nat,f k=n:=⟨(f k).toNat,by omega⟩
    have hn26:n<26:=by omega
    have HM:Hid (f k=n):=hn
    rw[hn] at hg
    clear hr hn
    have hc:=hrow.cell (vJ (Pm.seen f k) hn26)
    have hf:=hrow.frozen n
    cases hs:Pm.seen f k n
    ·rw[hs] at hc
     have HS:Hid (Pm.seen f k n=false):=hs
     clear hs
     go_wp2
     go_roundw
     case rel =>
      refine ⟨k+1,by omega,by go_num,?_,?_,?_⟩
      ·rw[Hid,Pm.fj f k HN.out,Pm.BB f k n HM.out hn26 HS.out]
      ·rw[←yz f k n HM.out,←vD]
       exact hrow.set n _
      ·exact hb.setCell (by simp) _
     case measure=>simp[intOf];omega
    ·rw[hs] at hc
     have HS:Hid (Pm.fU f=8):=by
      have h8:=Pm.zL f k n HM.out hn26 hs
      rw[Hid,Pm.mJ f k HN.out (by rw[h8];decide) hlt,h8]
     clear hs
     go_wp2
     go_ret
     exact ⟨lB HS.out.symm,hb⟩
  ·have HK:Hid (k=26):=by rw[Hid];omega
   go_wp2
   go_ret
   exact ⟨lB (Pm.vL f k HN.out HK.out).symm,hb⟩
end
namespace PK
open Go.RowKit
def lay (n:Nat) (g:Nat→Value) (o:Nat) (f:Nat→Int):Nat→Value:=fun i=>if o≤i∧i<o+n then .int .i64 (f (i-o)) else g i
theorem nR (N:Nat) (off:Nat):∀(l:List Value) (s:Nat) (g:Nat→Value),(l.zipIdx s).foldl (fun cs x=>cs.setIfInBounds (off+x.2) x.1) (tab N g)=tab N fun i=>if off+s≤i∧i<off+s+l.length then l.getD (i-(off+s)) (.bool false) else g i
 | [],s,g=>by
  simp only[List.zipIdx_nil,List.foldl_nil,List.length_nil]
  exact iE fun i _=>by rw[if_neg (by omega)]
 | v :: l,s,g=>by
  simp only[List.zipIdx_cons,List.foldl_cons]
  rw[oe,nR N off l (s+1)]
  refine iE fun i _=>?_
  by_cases h1:i=off+s
  ·subst h1
   rw[if_neg (by omega),if_pos (by simp)]
   simp
  ·by_cases h2:off+s≤i∧i<off+s+(v :: l).length
   ·have h3:off+(s+1)≤i∧i<off+(s+1)+l.length:=by simp at h2;omega
    rw[if_pos h3,if_pos h2]
    obtain ⟨j,hj⟩:∃j,i-(off+s)=j+1:=⟨i-(off+s)-1,by omega⟩
    have hj':i-(off+(s+1))=j:=by omega
    rw[hj,hj']
    simp
   ·rw[if_neg (by simp at h2;omega),if_neg h2]
    simp[upd,h1]
theorem vO (N:Nat) (h:Nat→Value):(Array.range N).map h=tab N h:=by
 apply Array.ext_getElem?
 intro i
 by_cases h1:i<N
 ·simp[tab,h1]
 ·simp[tab,h1]
section
variable {P:Program}
theorem dn {ops:Array Oper} {rest:List Oper} {op:Oper} {a:Act} {w:World} {Q:Exit→Act→World→Prop} (hgd:op.guard=none) (t:TypeId) (ho:op.op=.build t #[])
  (cells:Array Value) (hb:P.built t []=some cells) (h:wpList P ops Q rest (a.put op.dst (.agg cells)) w):wpList P ops Q (op :: rest) a w :=
 wpList_plain hgd fun _ hK=>by
  unfold Oper.wp execOp
  have hm:(#[]:Array (Nat × Operand)).map (fun (i,x)=>(i,a.eval x))=#[]:=by simp
  simp only[ho,Sem.run_bind,hm,run_build w t #[] cells hb,Result.andThen_ok]
  exact hK _ _ h
end
theorem bw {P:Program} {fn:Func} {p q:Tmp} {ty:TypeId} (h:fn.results=#[.cell p ty,.tmp q]) (tmps:Array Value) (w:World) (g:Nat) (t:TypeId) (cs:Array Value) (fr:Nat × Nat) (d:TypeDesc) (v:Value)
  (hp:tmps.getD p undef=.pointer (some ⟨g,0,none⟩)) (hv:tmps.getD q undef=v) (hg:w.heap[g]? = some (.cells cs t fr))
  (hu:P.underlying ty=some d) (hd:(match d with | .struct _ | .array _ _=>true | _=>false)=true) (hi:(P.info? ty).map (·.size)=some cs.size) :
  (results fn tmps).run P w=.ok (.tuple #[.agg cs,v]) w:=by
 have hp':tmps[p]?.getD undef=.pointer (some ⟨g,0,none⟩):=by simpa using hp
 have hv':tmps[q]?.getD undef=v:=by simpa using hv
 simp[results,h,hp',hv',asAddr,run_loadVar_row w g t ty cs fr d hg hu hd hi]
end PK
section
open Go.RowKit PK
section
variable {ops:Array Oper} {rest:List Oper} {op:Oper} {a:Act} {w:World} {Q:Exit→Act→World→Prop}
end
end
section
open Go.RowKit PK
def eN (f:Nat→Int):Nat→Bool
 | 0=>true
 | k+1=>eN f k && decide (-1000≤f k∧f k≤1000)
theorem jl (f:Nat→Int) (k:Nat):eN f (k+1)=(eN f k && decide (-1000≤f k∧f k≤1000)):=rfl
theorem pQ {f:Nat→Int} {k:Nat} (h:eN f k=false) (j:Nat) (hj:k≤j):eN f j=false:=by
 induction hj with
 | refl=>exact h
 | step _ ih=>rw[jl,ih];rfl
theorem pZ {f:Nat→Int}:∀{k:Nat},eN f k=true→∀i,i<k→-1000≤f i∧f i≤1000
 | 0,_,i,hi=>absurd hi (Nat.not_lt_zero i)
 | k+1,h,i,hi=>by
  rw[jl,Bool.and_eq_true] at h
  by_cases e:i=k
  ·rw[e];exact of_decide_eq_true h.2
  ·exact pZ h.1 i (by omega)
def cwE (l:List UInt8) (n:Nat) (f:Nat→Int):Int:=if ckE l≠0 then ckE l else if 256<l.length then 4 else if n≠676 then 8 else if eN f n=true then 0 else 3
theorem eY {l:List UInt8} {n:Nat} {f:Nat→Int} (h:cwE l n f=0):ckE l=0∧l.length≤256∧n=676∧∀i,i<676→-1000≤f i∧f i≤1000:=by
 unfold cwE at h
 by_cases h1:ckE l≠0
 ·rw[if_pos h1] at h;exact absurd h h1
 rw[if_neg h1] at h
 by_cases h2:256<l.length
 ·rw[if_pos h2] at h;cases h
 rw[if_neg h2] at h
 by_cases h3:n≠676
 ·rw[if_pos h3] at h;cases h
 rw[if_neg h3] at h
 by_cases h4:eN f n=true
 ·have h5:n=676:=Decidable.not_not.1 h3
  subst h5
  exact ⟨Decidable.not_not.1 h1,by omega,rfl,pZ h4⟩
 ·rw[if_neg h4] at h;cases h
theorem oX:(Try.prog.info? 95).map (·.size)=some 2:=by kernel_rfl
set_option maxRecDepth 100000 in
set_option maxHeartbeats 4000000 in
theorem rY (s:ByteArray) (v:Value) (n:Nat) (f:Nat→Int) (w:World) (hv:aY w v n f):Calls Try.prog 28 #[.string s,v] w fun e w'=>e=.returned (.int .i64 (cwE s.data.toList n f))∧Below w.heap.size w w':=by
 have HC:=(show Hid (∀W,Calls Try.prog 51 #[.string s] W fun e w'=>e=.returned (.agg #[.int .i64 (ckE s.data.toList),.int .i64 (vm s.data.toList)])∧Below W.heap.size W w') from uL s)
 obtain ⟨a,cap,rfl,hmx,hc⟩:=hv
 have HN:=(show Hid (∀c,c<n→∃b o,a=some ⟨b,o,none⟩∧w.cell? ⟨b,o+c,none⟩=some (.int .i64 (f c))) from hc)
 have hsl:=Pl.c6 s
 have HE:=(show Hid (∀E,ckE s.data.toList=E→cwE s.data.toList n f=if E≠0 then E else if 256<s.size then 4 else if n≠676 then 8 else if eN f n=true then 0 else 3) from fun E e=>by unfold cwE;rw[e,←hsl])
 have HEE:=(show Hid _ from HE.out _ rfl)
 generalize cwE s.data.toList n f=R at *
 generalize ckE s.data.toList=E at *
 generalize vm s.data.toList=At at *
 unfold maxLen at hmx
 clear hc hsl HE
 have hzF:(Try.prog.info? 95).map (·.zero)=some (some (.agg #[.int .i64 0,.int .i64 0])):=by kernel_rfl
 have hzq:=rD hzF
 go_enter Try.func28,Try.ntmps28
 go_wp2_with fail
 refine (HC.out _).mono ?_
 rintro e W2 ⟨rfl,hb2⟩
 clear HC
 obtain ⟨X,hX⟩:∃X:Array Value,X=#[.int .i64 E,.int .i64 At]:=⟨_,rfl⟩
 have hXs:X.size=2:=by rw[hX];rfl
 have hXo:X.all (·.oneCell')=true:=by rw[hX];simp[Value.oneCell']
 have HX0:Hid (X[0]? = some (.int .i64 E)):=by rw[Hid,hX];rfl
 rw[←hX]
 clear hX
 go_upto_region 2 with (first | refine wpList_store_row rfl 95 _ _ rfl W2.heap.size X rfl rfl 95 _ (ai.new W2 _ _) (by rw[hXs];exact oX) (by rw[hXs];rfl) hXo ?_)
 have hq:=(ai.new W2 95 #[.int .i64 0,.int .i64 0]).row X
 have hb8:=Below.setRow ((Below.refl W2.heap.size W2).alloc (Nat.le_refl _) (.cells #[.int .i64 0,.int .i64 0] 95)) W2.heap.size (Nat.le_refl _) X
 obtain ⟨W3,hW3⟩:∃W3,W3=(W2.alloc (.cells #[.int .i64 0,.int .i64 0] 95)).setRow W2.heap.size X:=⟨_,rfl⟩
 rw[←hW3] at hq hb8 ⊢
 clear hW3
 have hb3:=hb2.trans (hb8.mono hb2.size)
 have c0:=hq.cell HX0.out
 have HB3:=(show Hid (Below w.heap.size w W3) from hb3)
 clear hb8 hb2 hzF hzq hq hb3 hXs hXo
 generalize W2.heap.size=qf at *
 by_cases b1:E=0
 case neg =>
  have b1':(E != 0)=true:=by simpa using b1
  have HR:Hid (E=R):=by rw[Hid,HEE.out,if_pos b1]
  clear b1 HEE
  go_wp2
  go_ret
  exact ⟨by rw[HR.out];rfl,HB3.out⟩
 subst b1
 have e0:((0:Int) != 0)=false:=rfl
 by_cases b2:256<s.size
 ·have b2':(256:Int)<(s.size:Int):=by omega
  have HR:Hid (R=4):=by rw[Hid,HEE.out,if_neg (by simp),if_pos b2]
  clear b2 HEE
  go_wp2
  go_ret
  exact ⟨by rw[HR.out];rfl,HB3.out⟩
 have b2':¬(256:Int)<(s.size:Int):=by omega
 by_cases b3:n=676
 case neg =>
  have b3':((n:Int) != 676)=true:=by simp;omega
  have HR:Hid (R=8):=by rw[Hid,HEE.out,if_neg (by simp),if_neg b2,if_pos b3]
  clear b3 HEE b2
  go_wp2
  go_ret
  exact ⟨by rw[HR.out];rfl,HB3.out⟩
 have b3':((n:Int) != 676)=false:=by simp;omega
 have HR:Hid (R=if eN f n=true then 0 else 3):=by rw[Hid,HEE.out,if_neg (by simp),if_neg b2,if_neg (fun h=>h b3)]
 clear b2 HEE
 go_wp2_with fail
 clear c0 b2' b3' e0
 go_loopw [23] (fun i W=>∃k:Nat,k≤n∧i=.int .i64 (k:Nat)∧eN f k=true∧Below w.heap.size w W) (fun i _=>((n:Int)-intOf i).toNat)
 case atStart=>exact ⟨0,by omega,rfl,rfl,HB3.out⟩
 case round =>
  clear HB3
  obtain ⟨k,hk,rfl,hp,hbe⟩:=hrel
  by_cases hlt:k<n
  ·have HLT:Hid (k<n):=hlt
   have hlt2:(k:Int)<(n:Int):=by omega
   obtain ⟨b,o,rfl,hcell⟩:=HN.out k hlt
   have c1:=(hbe.cell (p:=⟨b,o+k,none⟩) (cD hcell)).trans hcell
   have HS:=(show Hid _ from jl f k)
   have HP:=(show Hid (eN f k=true) from hp)
   have HF:Hid (eN f (k+1)=false→eN f n=false):=fun h=>pQ h n (by omega)
   have HBE:=(show Hid _ from hbe)
   clear hlt hcell hp hbe
   generalize f k=x at *
   by_cases x1:x< -1000
   ·have HQ:Hid (R=3):=by
     rw[Hid,HR.out,if_neg]
     rw[HF.out (by rw[HS.out,HP.out];simp;omega)]
     decide
    go_wp2
    go_ret
    exact ⟨by rw[HQ.out];rfl,HBE.out⟩
   by_cases x2:1000<x
   ·have HQ:Hid (R=3):=by
     rw[Hid,HR.out,if_neg]
     rw[HF.out (by rw[HS.out,HP.out];simp;omega)]
     decide
    go_wp2
    go_ret
    exact ⟨by rw[HQ.out];rfl,HBE.out⟩
   have HQ:Hid (eN f (k+1)=true):=by rw[Hid,HS.out,HP.out];simp;omega
   go_wp2
   go_roundw
   case rel=>exact ⟨k+1,HLT.out,by go_num,HQ.out,HBE.out⟩
   case measure=>have:=HLT.out;simp[intOf];omega
  ·obtain rfl:k=n:=by omega
   have hnn:¬((k:Nat):Int)<((k:Nat):Int):=by omega
   have HQ:Hid (R=0):=by rw[Hid,HR.out,if_pos hp]
   have HBE:=(show Hid _ from hbe)
   clear hp hbe hlt
   go_wp2
   go_ret
   exact ⟨by rw[HQ.out];rfl,HBE.out⟩
end
namespace Vg
def there (kind a b:Nat):Nat:=if kind=2 then (b+26-a) % 26 else if kind=3 then (a+26-b) % 26 else (a+b) % 26
def back (kind c b:Nat):Nat:=if kind=2 then (b+26-c) % 26 else if kind=3 then (c+b) % 26 else (c+26-b) % 26
def num (c:UInt8):Nat:=c.toNat-65
theorem Ck {c:UInt8} (h:65≤c.toNat∧c.toNat≤90):num c<26:=by unfold num;omega
def Ls (l:List UInt8):Prop:=∀c ∈ l,65≤c.toNat∧c.toNat≤90
theorem Ls.at {l:List UInt8} (h:Ls l) {i:Nat} (hi:i<l.length):65≤(l.getD i 0).toNat∧(l.getD i 0).toNat≤90:=by
 rw[List.getD_eq_getElem?_getD,List.getElem?_eq_getElem hi]
 exact h _ (List.getElem_mem hi)
def kat (kind:Nat) (k p:List UInt8) (i:Nat):Nat:=if kind=4∧k.length≤i then num (p.getD (i-k.length) 0) else num (k.getD (i % k.length) 0)
def nx {α:Type} [DecidableEq α] (p:Nat→α) (q:α):Nat→Nat→Option Nat
 | _,0=>none
 | j,n+1=>if p j=q then some j else nx p q (j+1) n
end Vg
section
open Go.RowKit PK
theorem mz {l:List UInt8} (h:ckE l=0):Vg.Ls l∧l.length≤65536:=by
 rcases yq l with ⟨_,_,h3,h4⟩ | h1
 ·exact ⟨fun c hc=>by have:=h4 c hc;simp[Pl.isL] at this;omega,h3⟩
 ·rw[h] at h1;cases h1
def jx (s:ByteArray) (k:Nat):Nat:=Vg.num (s.data.toList.getD k 0)
def iR (s:ByteArray) (f:Nat→Int) (key:Nat→Nat):Nat→Int
 | 0=>0
 | k+1=>iR s f key k+f (26*key (jx s k)+key (jx s (k+1)))
def sc (s:ByteArray) (f:Nat→Int) (key:Nat→Nat):Int:=iR s f key (s.size-1)
theorem kU {s:ByteArray} (hs:Vg.Ls s.data.toList) {k:Nat} (hk:k<s.size):jx s k<26:=Vg.Ck (hs.at (by have:=Pl.c6 s;omega))
theorem AF {s:ByteArray} (hs:Vg.Ls s.data.toList) {k:Nat} (hk:k<s.size):(s[k].toNat:Int)=(jx s k:Int)+65:=by
 have h1:=hs.at (i:=k) (by have:=Pl.c6 s;omega)
 have h2:=vG s k hk
 unfold jx Vg.num
 rw[h2] at h1 ⊢
 omega
theorem Av {a b:Nat} (ha:a<26) (hb:b<26):26*a+b<676:=by omega
theorem og {s:ByteArray} (hs:Vg.Ls s.data.toList) {f:Nat→Int} (hf:∀i,i<676→-1000≤f i∧f i≤1000) {key:Nat→Nat} (hk:∀i,i<26→key i<26):∀k,k≤s.size-1→-1000*(k:Int)≤iR s f key k∧iR s f key k≤1000*(k:Int)
 | 0,_=>by simp[iR]
 | k+1,h=>by
  have ih:=og hs hf hk k (by omega)
  have h1:=hf _ (Av (hk _ (kU hs (k:=k) (by omega))) (hk _ (kU hs (k:=k+1) (by omega))))
  unfold iR
  push_cast
  omega
end
section
open Go.RowKit PK
section
variable {P:Program}
theorem ie (w:World) (t e:TypeId) (n:Nat) (hn:n*2≤2 ^ 24) (h0:0<n) (hu:P.underlying t=some (.slice e)) (z c:Array Value) (hzs:z.size=n) (hc:c.size=n) (hz:(P.info? e).map (fun i=>(i.zero,i.size))=some (some (.agg z),n)) :
  (Instr.buildSlice t 1 #[(0,.agg c)]).run P w=.ok (.slice (some ⟨w.heap.size,0,none⟩) 1 1) (w.alloc (.cells c e)):=by
 obtain ⟨hz1,hz2⟩:=zero_of_info hz
 cases hq:P.info? e with
 | none=>simp[hq] at hz
 | some i =>
  have hs:i.size=n:=by simpa [hq] using hz2
  have hsz:∀W,(sizeOf e).run P W=.ok n W:=fun W=>by simp[sizeOf,typeInfo,hq,hs]
  have hcc:(Value.agg c).cells=c:=rfl
  have hfill:Instr.fill (fun i=>some (i*n,n)) (tab n fun x=>z[x % n]!) [(0,.agg c)]=some c:=by
   rw[Instr.fill]
   simp only[hcc,hc,gW]
   rw[if_neg (by simp)]
   have hx:=nR n (0*n) c.toList 0 (fun x=>z[x % n]!)
   rw[←Array.foldl_toList,Array.toList_zipIdx,hx]
   show some _=some c
   congr 1
   apply Array.ext_getElem?
   intro i
   by_cases hi:i<n
   ·rw[jv _ hi,if_pos (by simp[hc];omega)]
    simp[List.getD_eq_getElem?_getD,hc,hi]
   ·rw[Array.getElem?_eq_none (by rw[gW];omega),Array.getElem?_eq_none (by omega)]
  have h3:¬(n > 2 ^ 24):=by omega
  have h4:¬(n=0):=by omega
  have hzc:(Value.agg z).cells=z:=rfl
  simp only[Instr.buildSlice,Sem.run_bind,run_underlying hu,Result.andThen_ok,hsz,Nat.one_mul,h3,h4,if_false,hz1,Sem.run_pure,hzc,hzs,vO,hfill]
  simp[newRow]
theorem vZ {ops:Array Oper} {rest:List Oper} {op:Oper} {a:Act} {w:World} {Q:Exit→Act→World→Prop} (hgd:op.guard=none) (t e:TypeId) (x:Operand) (ho:op.op=.buildSlice t 1 #[(0,x)])
  (n:Nat) (z c:Array Value) (hx:a.eval x=.agg c) (hn:n*2≤2 ^ 24) (h0:0<n) (hu:P.underlying t=some (.slice e)) (hzs:z.size=n) (hc:c.size=n) (hz:(P.info? e).map (fun i=>(i.zero,i.size))=some (some (.agg z),n))
  (h:wpList P ops Q rest (a.put op.dst (.slice (some ⟨w.heap.size,0,none⟩) 1 1)) (w.alloc (.cells c e))):wpList P ops Q (op :: rest) a w :=
 wpList_plain hgd fun _ hK=>by
  unfold Oper.wp execOp
  have hm:(#[(0,x)]:Array (Nat × Operand)).map (fun (i,x)=>(i,a.eval x))=#[(0,.agg c)]:=by simp[hx]
  simp only[ho,Sem.run_bind,hm,ie w t e n hn h0 hu z c hzs hc hz,Result.andThen_ok]
  exact hK _ _ h
end
theorem iZ {P:Program} {fn:Func} {p:Tmp} {ty:TypeId} (h:fn.results=#[.cell p ty]) (tmps:Array Value) (w:World) (g:Nat) (t:TypeId) (cs:Array Value) (fr:Nat × Nat) (d:TypeDesc)
  (hp:tmps.getD p undef=.pointer (some ⟨g,0,none⟩)) (hg:w.heap[g]? = some (.cells cs t fr))
  (hu:P.underlying ty=some d) (hd:(match d with | .struct _ | .array _ _=>true | _=>false)=true) (hi:(P.info? ty).map (·.size)=some cs.size) :
  (results fn tmps).run P w=.ok (.agg cs) w:=by
 have hp':tmps[p]?.getD undef=.pointer (some ⟨g,0,none⟩):=by simpa using hp
 simp[results,h,hp',asAddr,run_loadVar_row w g t ty cs fr d hg hu hd hi]
theorem dU {P:Program} {ops:Array Oper} {rest:List Oper} {op:Oper} {a:Act} {w:World} {Q:Exit→Act→World→Prop} (hgd:op.guard=none) (t:TypeId) (xs:List (Nat × Operand)) (ho:op.op=.build t xs.toArray) (vs:List (Nat × Value)) (hv:xs.map (fun x=>(x.1,a.eval x.2))=vs)
  (cells:Array Value) (hb:P.built t vs=some cells) (h:wpList P ops Q rest (a.put op.dst (.agg cells)) w):wpList P ops Q (op :: rest) a w :=
 wpList_plain hgd fun _ hK=>by
  unfold Oper.wp execOp
  have hm:xs.toArray.map (fun (i,x)=>(i,a.eval x))=vs.toArray:=by rw[←hv];simp
  simp only[ho,Sem.run_bind,hm,run_build w t vs.toArray cells hb,Result.andThen_ok]
  exact hK _ _ h
end
end Go.Proofs.Ytpdemelchhkfaaa
