import Derived.Test.YtpcnpkhgjanamaaGreatDoorPz
import Derived.Test.YtpcnpkhgjanamaaGreatDoorJn12
namespace Go.Proofs.YtpcnpkhgjanamaaGreatDoor
open Go renaming Value→R2,World→V8,TypeId→Wj,Operand→Yb
open _root_.Decidable renaming not_not→Xk
open Go.Instr renaming buildSlice→X5,fill→Yk
set_option maxHeartbeats 1000000
section
open Go.RowKit PK
def b6(f:Nat→Int)(R:R2):Array R2:=(ints 26 f).push R
theorem aO(f:Nat→Int)(R:R2):(b6 f R).size=27:=by simp[b6,ag]
theorem kV(f:Nat→Int)(R:R2){i:Nat}(h:i<26):(b6 f R)[i]?=some (.int .i64 (f i)):=by
 unfold b6;rw[Wq,ag,V9 vom,aB f h]
theorem jE(f:Nat→Int)(R:R2):(b6 f R)[26]?=some R:=by
 unfold b6;rw[Wq,ag,Wc rfl]
theorem NZ{f g:Nat→Int}(h:∀i,i<26→f i=g i)(R:R2):b6 f R=b6 g R:=by unfold b6;rw[b8 h]
def aP(a b c:R2)(rf pl:Nat→Int):Array R2:=#[a,b,c]++ints 26 rf++ints 26 pl
theorem aD(a b c:R2)(rf pl:Nat→Int):(aP a b c rf pl).size=55:=by simp[aP,ag]
theorem dV(a b c:R2)(rf pl:Nat→Int):(aP a b c rf pl)[0]?=some a:=by simp[aP,ag]
theorem rV(a b c:R2)(rf pl:Nat→Int):(aP a b c rf pl)[1]?=some b:=by simp[aP,ag]
theorem gM(a b c:R2)(rf pl:Nat→Int):(aP a b c rf pl)[2]?=some c:=by simp[aP,ag]
theorem CG(a b c:R2)(rf pl:Nat→Int){i:Nat}(h:i<26):(aP a b c rf pl)[3+i]?=some (.int .i64 (rf i)):=by
 unfold aP;rw[Yq,Wc (by simp[ag];omega),Yq,V9 vsi];simp[aB rf h]
theorem qX(a b c:R2)(rf pl:Nat→Int){i:Nat}(h:i<26):(aP a b c rf pl)[29+i]?=some (.int .i64 (pl i)):=by
 unfold aP;rw[Yq,V9 (by simp[ag])];simp[ag,aB pl h]
theorem ND{rf pl Jf zD:Nat→Int}(h1:∀i,i<26→rf i=Jf i)(h2:∀i,i<26→pl i=zD i)(a b c:R2):aP a b c rf pl=aP a b c Jf zD:=by unfold aP;rw[b8 h1,b8 h2]
def cA(W:V8)(v:R2)(n:Nat)(wi:Nat→Nat→Int)(nl:Nat→Nat)(no:Nat→Nat→Int):Prop:=
 ∃(a:Option Addr) (cap:Nat) (R:Nat→R2),v=.slice a n cap∧n≤maxLen∧(∀r,r<n→∃b o,a=some ⟨b,o,none⟩∧W.rangeAt b (o+r*27) (b6 (wi r) (R r)).toList)∧∀r,r<n→aq W (R r) (nl r) (no r)
structure Gm where
 n:Nat
 wi:Nat→Nat→Int
 nl:Nat→Nat
 no:Nat→Nat→Int
 rl:Nat
 ri:Nat→Int
 sl:Nat
 st:Nat→Int
 rf:Nat→Int
 pl:Nat→Int
def cL(W:V8)(v:R2)(g:Gm):Prop:=∃a b c,v=.agg (aP a b c g.rf g.pl)∧cA W a g.n g.wi g.nl g.no∧aq W b g.rl g.ri∧aq W c g.sl g.st
theorem b7{w w':V8}{b o:Nat}{l:List R2}(h:w.rangeAt b o l)(hb:Below w.heap.size w w'):w'.rangeAt b o l:=fun j v hv=>by
 have:=h j v hv;exact(hb.cell (p:=⟨b,o+j,none⟩) (aA this)).trans this
theorem cA.below{w w':V8}{v:R2}{n:Nat}{wi:Nat→Nat→Int}{nl:Nat→Nat}{no:Nat→Nat→Int}(h:cA w v n wi nl no)(hb:Below w.heap.size w w'):cA w' v n wi nl no:=by
 obtain⟨a,cap,R,h1,h2,h3,h4⟩:=h;refine⟨a,cap,R,h1,h2,fun r hr=>?_,fun r hr=>(h4 r hr).below hb⟩;obtain⟨b,o,e,hc⟩:=h3 r hr;exact⟨b,o,e,b7 hc hb⟩
theorem cL.below{w w':V8}{v:R2}{g:Gm}(h:cL w v g)(hb:Below w.heap.size w w'):cL w' v g:=by
 obtain⟨a,b,c,e,h1,h2,h3⟩:=h;exact⟨a,b,c,e,h1.below hb,h2.below hb,h3.below hb⟩
def ins(n:Nat)(f:Nat→Int):Bool:=(List.range n).all fun i=>decide (0≤f i∧f i≤25)
theorem nt(n:Nat)(f:Nat→Int):ins n f=true↔∀i,i<n→0≤f i∧f i≤25:=by
 unfold ins;rw[Yv];constructor
 ·intro h i hi;simpa using h i (by simpa using hi)
 ·intro h i hi;simpa using h i (by simpa using hi)
def jR(g:Gm):Nat→Int
 |0=>0
 |k+1=>if jR g k≠0 then jR g k else if Pm.wrong (g.wi k)≠0 then Pm.wrong (g.wi k)else if ins (g.nl k) (g.no k)=true then 0 else 3
def jA(strict:Bool)(f:Nat→Int):Bool:=(List.range 26).all fun i=>decide (f (f i).toNat=(i:Int))&& !(strict&&decide (f i=(i:Int)))
theorem uF(strict:Bool)(f:Nat→Int):jA strict f=true↔∀i,i<26→f (f i).toNat=(i:Int)∧(strict=true→f i≠(i:Int)):=by
 unfold jA;rw[Yv];constructor
 ·intro h i hi
  have:=h i (by simpa using hi);simp at this;refine⟨this.1,fun hs=>?_⟩;rcases this.2 with h1|h1
  ·rw[hs]at h1;cases h1
  ·exact h1
 ·intro h i hi
  have:=h i (by simpa using hi);simp[this.1];cases strict
  ·exact .inl rfl
  ·exact .inr (this.2 rfl)
def gE(g:Gm):Int:=
 if g.n<1∨4<g.n then 5 else if jR g g.n≠0 then jR g g.n
 else if g.rl≠g.n then 8 else if ins g.rl g.ri=false then 3
 else if g.sl≠g.n then 8 else if ins g.sl g.st=false then 3
 else if Pm.wrong g.rf≠0 then Pm.wrong g.rf else if jA true g.rf=false then 1
 else if Pm.wrong g.pl≠0 then Pm.wrong g.pl else if jA false g.pl=false then 1 else 0
def RG(M:Om.Ma):Gm:=⟨M.n,fun r=>Pm.up (M.wi r),fun r=>(M.no r).length,fun r k=>((M.no r).getD k 0:Nat),M.n,fun i=>(M.ri i:Nat),M.n,fun i=>(M.st i:Nat),Pm.up M.rf,Pm.up M.pl⟩
theorem uR{w:V8}{v:R2}{n:Nat}{f f2:Nat→Int}(h:aq w v n f)(e:∀i,i<n→f i=f2 i):aq w v n f2:=by
 obtain⟨a,cap,h1,h2,h3⟩:=h;refine⟨a,cap,h1,h2,fun c hc=>?_⟩;rw[←e c hc];exact h3 c hc
theorem BC(g:Gm):∀n,jR g n=0→∀r,r<n→Pm.wrong (g.wi r)=0∧ins (g.nl r) (g.no r)=true
 |0,_,r,hr=>by omega
 |n+1,h,r,hr=>by
  have h0:jR g n=0:=by
   by_cases e:jR g n=0
   ·exact e
   ·unfold jR at h;rw[Wc e]at h;exact absurd h e
  unfold jR at h;rw[V9 (fun e=>e h0)]at h
  have h1:Pm.wrong (g.wi n)=0:=by
   by_cases e:Pm.wrong (g.wi n)=0
   ·exact e
   ·rw[Wc e]at h;exact absurd h e
  rw[V9 (fun e=>e h1)]at h
  have h2:ins (g.nl n) (g.no n)=true:=by
   by_cases e:ins (g.nl n) (g.no n)=true
   ·exact e
   ·rw[V9 e]at h;cases h
  by_cases e:r=n
  ·rw[e];exact⟨h1,h2⟩
  ·exact BC g n h0 r vom
theorem yJ{g:Gm}(h:gE g=0):(1≤g.n∧g.n≤4)∧jR g g.n=0∧(g.rl=g.n∧ins g.rl g.ri=true)∧(g.sl=g.n∧ins g.sl g.st=true)∧(Pm.wrong g.rf=0∧jA true g.rf=true)∧Pm.wrong g.pl=0∧jA false g.pl=true:=by
 unfold gE at h;by_cases h1:g.n<1∨4<g.n
 ·rw[Wc h1]at h;cases h
 rw[V9 h1]at h;by_cases h2:jR g g.n≠0
 ·rw[Wc h2]at h;exact absurd h h2
 rw[V9 h2]at h;by_cases h3:g.rl≠g.n
 ·rw[Wc h3]at h;cases h
 rw[V9 h3]at h;by_cases h4:ins g.rl g.ri=false
 ·rw[Wc h4]at h;cases h
 rw[V9 h4]at h;by_cases h5:g.sl≠g.n
 ·rw[Wc h5]at h;cases h
 rw[V9 h5]at h;by_cases h6:ins g.sl g.st=false
 ·rw[Wc h6]at h;cases h
 rw[V9 h6]at h;by_cases h7:Pm.wrong g.rf≠0
 ·rw[Wc h7]at h;exact absurd h h7
 rw[V9 h7]at h;by_cases h8:jA true g.rf=false
 ·rw[Wc h8]at h;cases h
 rw[V9 h8]at h;by_cases h9:Pm.wrong g.pl≠0
 ·rw[Wc h9]at h;exact absurd h h9
 rw[V9 h9]at h;by_cases h10:jA false g.pl=false
 ·rw[Wc h10]at h;cases h
 exact⟨⟨vom,vom⟩,Xk.1 h2,⟨Xk.1 h3,by simpa using h4⟩,⟨Xk.1 h5,by simpa using h6⟩,⟨Xk.1 h7,by simpa using h8⟩,Xk.1 h9,by simpa using h10⟩
theorem aj:(Tryz.prog.info? 33).map (·.size)=some 26:=vkr
theorem we:(Tryz.prog.info? 3).map (·.size)=some 1:=vkr
theorem Lq(f:Nat→Int)(k n:Nat)(h:f k=(n:Int)):iF 26 (upd (Pm.seen f k) n true)=iF 26 (Pm.seen f (k+1)):=jq fun i _=>by
 rw[Pm.GZ,h];by_cases e:i=n
 ·subst e;simp
 ·rw[cH _ _ e]
  have:(n:Int)≠(i:Int):=vom;simp[this]
theorem qG(f:Nat→Int)(w:V8):Calls Tryz.prog 106 #[.agg (ints 26 f)] w fun e w'=>e=.returned (.int .i64 (Pm.wrong f))∧Below w.heap.size w w':=by
 go_enter Tryz.func106,Tryz.ntmps106
 go_wp2_with (refine Wn rfl 33 _ rfl w.heap.size rfl 33 (ints 26 f) (0,0) _ ((af.new w _ _).alloc _) Tryz.underlying33 rfl (by rw[ag];exact aj) ?_)
 rw[Kq];go_loopw [7] (fun i W=>∃k:Nat,k≤26∧i=.int .i64 k∧Hid (Pm.eF f k=0)∧af W (w.heap.size+1) 167 (iF 26 (Pm.seen f k))∧Below w.heap.size w W) (fun i _=>(26-intOf i).toNat)
 case atStart=>
  refine⟨0,vom,rfl,rfl,?_,((Below.refl _ _).alloc (R3 _) _).alloc vsi _⟩;have:=af.new (w.alloc (Obj.cells (ints 26 f) 33)) 167 (iF 26 fun x=>false);rw[WI]at this;exact this
 case round=>
  obtain⟨k,hk,rfl,HN,b,hb⟩:=hrel;by_cases hlt:k<26
  ·have hg:=mB 33 3 26 Tryz.underlying33 Tryz.underlying3 we f k hlt
   by_cases hr:f k<0∨26≤f k
   ·have H:Hid (Pm.wrong f=3):=by rw[Hid,Pm.uk f k HN.out (by rw[Pm.xZ f k hr];decide) hlt,Pm.xZ f k hr]
    rcases hr with hr|hr
    ·go_wp2
     go_ret;exact⟨eI H.out.symm,hb⟩
    ·have c:¬f k<0:=vom
     go_wp2;go_ret;exact⟨eI H.out.symm,hb⟩
   ·obtain⟨n,hn⟩:∃n:Nat,f k=n:=⟨(f k).toNat,vom⟩
    have a:n<26:=vom;have HM:Hid (f k=n):=hn;rw[hn]at hg;clear hr hn;have hc:=b.cell (qR (Pm.seen f k) a);have hf:=b.frozen n;cases hs:Pm.seen f k n
    ·rw[hs]at hc
     have HS:Hid (Pm.seen f k n=false):=hs;clear hs;go_wp2;go_roundw
     case rel=>
      refine⟨k+1,vom,by go_num,?_,?_,?_⟩
      ·rw[Hid,Pm.iZ f k HN.out,Pm.Qz f k n HM.out a HS.out]
      ·rw[←Lq f k n HM.out,←xY]
       exact b.set n _
      ·exact hb.setCell vsi _
     case measure=>simp[intOf];omega
    ·rw[hs]at hc
     have HS:Hid (Pm.wrong f=8):=by
      have h8:=Pm.Nh f k n HM.out a hs;rw[Hid,Pm.uk f k HN.out (by rw[h8];decide) hlt,h8]
     clear hs;go_wp2;go_ret;exact⟨eI HS.out.symm,hb⟩
  ·have HK:Hid (k=26):=by rw[Hid];omega
   go_wp2;go_ret;exact⟨eI (Pm.Hq f k HN.out HK.out).symm,hb⟩
end
namespace PK
open Go.RowKit
def lay(n:Nat)(g:Nat→R2)(o:Nat)(f:Nat→Int):Nat→R2:=fun i=>if o≤i∧i<o+n then .int .i64 (f (i-o))else g i
theorem jM(N:Nat)(off:Nat):∀(l:List R2) (s:Nat) (g:Nat→R2),(l.zipIdx s).foldl (fun cs x=>cs.setIfInBounds (off+x.2) x.1) (bJ N g)=bJ N fun i=>if off+s≤i∧i<off+s+l.length then l.getD (i-(off+s)) (.bool false)else g i
 |[],s,g=>by
  simp only[List.zipIdx_nil,List.foldl_nil,List.length_nil];exact cy fun i _=>by rw[V9 vom]
 |v :: l,s,g=>by
  simp only[List.zipIdx_cons,List.foldl_cons];rw[dY,jM N off l (s+1)];refine cy fun i _=>?_;by_cases h1:i=off+s
  ·subst h1
   rw[V9 vom,Wc vsi];simp
  ·by_cases h2:off+s≤i∧i<off+s+(v :: l).length
   ·have h3:off+(s+1)≤i∧i<off+(s+1)+l.length:=by simp at h2;omega
    rw[Wc h3,Wc h2];obtain⟨j,hj⟩:∃j,i-(off+s)=j+1:=⟨i-(off+s)-1,vom⟩
    have a:i-(off+(s+1))=j:=vom;rw[hj,a];simp
   ·rw[V9 (by simp at h2;omega),V9 h2]
    simp[upd,h1]
theorem sB(n:Nat)(f:Nat→Int):(ints n f).toList=(List.range n).map fun i=>.int .i64 (f i):=by simp[ints,bJ]
theorem rM(n N:Nat)(g:Nat→R2)(k:Nat)(f:Nat→Int)(rest:List (Nat×R2))(h:k*n+n≤N):
  Yk (fun i=>some (i*n,n)) (bJ N g) ((k,.agg (ints n f)) :: rest)=Yk (fun i=>some (i*n,n)) (bJ N (lay n g (k*n) f)) rest:=by
 rw[Yk];have h0:(Value.agg (ints n f)).cells=ints n f:=rfl;simp only[h0,ag,aU];rw[V9 (by simp<;>omega)]
 congr 1
 rw[←Array.foldl_toList,Array.toList_zipIdx];have:=jM N (k*n) (ints n f).toList 0 g;rw[this];refine cy fun i _=>?_;rw[sB];simp only[List.length_map,List.length_range,Nat.add_zero,lay];by_cases e:k*n≤i∧i<k*n+n
 ·rw[Wc e,Wc e]
  have:i-k*n<n:=vom;simp[List.getD,this]
 ·rw[V9 e,V9 e]
theorem mJ(N:Nat)(h:Nat→R2):(Array.range N).map h=bJ N h:=by
 apply Xc;intro i;by_cases h1:i<N
 ·simp[bJ,h1]
 ·simp[bJ,h1]
section
variable{P:Program}
theorem EA(w:V8)(t e:Wj)(n:Nat)(hn:n*2≤2 ^ 24)(hu:P.underlying t=some (.slice e))(hz:(P.info? e).map (fun i=>(i.zero,i.size))=some (some (.agg (ints n fun _=>0)),n))(h0:0<n)(f:Nat→Int):
  (X5 t 1 #[(0,.agg (ints n f))]).run P w=.ok (.slice (some ⟨w.heap.size,0,none⟩) 1 1) (w.alloc (.cells (ints n f) e)):=by
 obtain⟨g,d⟩:=zero_of_info hz;cases hq:P.info? e with
 |none=>simp[hq]at hz
 |some i=>
  have hs:i.size=n:=by simpa[hq]using d
  have h:∀W,(sizeOf e).run P W=.ok n W:=fun W=>by simp[sizeOf,typeInfo,hq,hs]
  have c:bJ n (lay n (fun x=>(ints n fun _=>0)[x % n]!) (0*n) f)=ints n f:=cy fun i hi=>by
   unfold lay;rw[Wc vom];simp
  have a:=rM n n (fun x=>(ints n fun _=>0)[x % n]!) 0 f [] vom;rw[c]at a;have b:=a.trans (rfl:_=some (ints n f));have h3:¬(n > 2 ^ 24):=vom;have h4:¬(n=0):=vom;have hc:(Value.agg (ints n fun _=>0)).cells=ints n fun _=>0:=rfl;simp only[X5,XQ,run_underlying hu,Xo,h,Nat.one_mul,h3,h4,X9,g,Sem.run_pure,hc,ag,mJ,b];simp[newRow]
theorem Cw(w:V8)(t e:Wj)(n:Nat)(hn:n*2≤2 ^ 24)(hu:P.underlying t=some (.slice e))(hz:(P.info? e).map (fun i=>(i.zero,i.size))=some (some (.agg (ints n fun _=>0)),n))(h0:0<n)(f g:Nat→Int):
  (X5 t 2 #[(0,.agg (ints n f)),(1,.agg (ints n g))]).run P w=.ok (.slice (some ⟨w.heap.size,0,none⟩) 2 2) (w.alloc (.cells (ints (2*n) fun i=>if i<n then f i else g (i-n)) e)):=by
 obtain⟨h,d⟩:=zero_of_info hz;cases hq:P.info? e with
 |none=>simp[hq]at hz
 |some i=>
  have hs:i.size=n:=by simpa[hq]using d
  have j:∀W,(sizeOf e).run P W=.ok n W:=fun W=>by simp[sizeOf,typeInfo,hq,hs]
  have c:bJ (2*n) (lay n (lay n (fun x=>(ints n fun _=>0)[x % n]!) (0*n) f) (1*n) g)=ints (2*n) fun i=>if i<n then f i else g (i-n):=cy fun i hi=>by
   unfold lay;by_cases e:i<n
   ·rw[V9 vom,Wc vom];simp[e]
   ·rw[Wc vom];simp[e]
  have a:=rM n (2*n) (fun x=>(ints n fun _=>0)[x % n]!) 0 f [(1,.agg (ints n g))] vom;rw[rM n (2*n) _ 1 g [] vom,c]at a;have b:=a.trans (rfl:_=some (ints (2*n) fun i=>if i<n then f i else g (i-n)));have h3:¬(2*n > 2 ^ 24):=vom;have h4:¬(2*n=0):=vom;have hc:(Value.agg (ints n fun _=>0)).cells=ints n fun _=>0:=rfl;simp only[X5,XQ,run_underlying hu,Xo,j,h3,h4,X9,h,Sem.run_pure,hc,ag,mJ,b];simp[newRow]
theorem cS{ops:Array Oper}{rest:List Oper}{op:Oper}{a:Act}{w:V8}{Q:Exit→Act→V8→Prop}(hgd:op.guard=none)(t:Wj)(ho:op.op=.build t #[])
  (cells:Array R2) (hb:P.built t []=some cells) (h:wpList P ops Q rest (a.put op.dst (.agg cells)) w):wpList P ops Q (op :: rest) a w:=
 wpList_plain hgd fun _ hK=>by
  unfold Oper.wp execOp;have hm:(#[]:Array (Nat×Yb)).map (fun(i,x)=>(i,a.eval x))=#[]:=vsi;simp only[ho,XQ,hm,run_build w t #[] cells hb,Xo];exact hK _ _ h
theorem jj{ops:Array Oper}{rest:List Oper}{op:Oper}{a:Act}{w:V8}{Q:Exit→Act→V8→Prop}(hgd:op.guard=none)(t e:Wj)(x:Yb)(ho:op.op=.buildSlice t 1 #[(0,x)])
  (n:Nat) (f:Nat→Int) (hx:a.eval x=.agg (ints n f)) (hn:n*2≤2 ^ 24) (hu:P.underlying t=some (.slice e)) (hz:(P.info? e).map (fun i=>(i.zero,i.size))=some (some (.agg (ints n fun _=>0)),n)) (h0:0<n)
  (h:wpList P ops Q rest (a.put op.dst (.slice (some ⟨w.heap.size,0,none⟩) 1 1)) (w.alloc (.cells (ints n f) e))):wpList P ops Q (op :: rest) a w:=
 wpList_plain hgd fun _ hK=>by
  unfold Oper.wp execOp;have hm:(#[(0,x)]:Array (Nat×Yb)).map (fun(i,x)=>(i,a.eval x))=#[(0,.agg (ints n f))]:=by simp[hx]
  simp only[ho,XQ,hm,EA w t e n hn hu hz h0 f,Xo];exact hK _ _ h
theorem wI{ops:Array Oper}{rest:List Oper}{op:Oper}{a:Act}{w:V8}{Q:Exit→Act→V8→Prop}(hgd:op.guard=none)(t e:Wj)(x y:Yb)(ho:op.op=.buildSlice t 2 #[(0,x),(1,y)])
  (n:Nat) (f g:Nat→Int) (hx:a.eval x=.agg (ints n f)) (hy:a.eval y=.agg (ints n g)) (hn:n*2≤2 ^ 24) (hu:P.underlying t=some (.slice e)) (hz:(P.info? e).map (fun i=>(i.zero,i.size))=some (some (.agg (ints n fun _=>0)),n)) (h0:0<n)
  (h:wpList P ops Q rest (a.put op.dst (.slice (some ⟨w.heap.size,0,none⟩) 2 2)) (w.alloc (.cells (ints (2*n) fun i=>if i<n then f i else g (i-n)) e))):wpList P ops Q (op :: rest) a w:=
 wpList_plain hgd fun _ hK=>by
  unfold Oper.wp execOp;have hm:(#[(0,x),(1,y)]:Array (Nat×Yb)).map (fun(i,x)=>(i,a.eval x))=#[(0,.agg (ints n f)),(1,.agg (ints n g))]:=by simp[hx,hy]
  simp only[ho,XQ,hm,Cw w t e n hn hu hz h0 f g,Xo];exact hK _ _ h
end
theorem aF{P:Program}{fn:Func}{p q:Tmp}{ty:Wj}(h:fn.results=#[.cell p ty,.tmp q])(tmps:Array R2)(w:V8)(g:Nat)(t:Wj)(cs:Array R2)(fr:Nat×Nat)(d:TypeDesc)(v:R2)
  (hp:tmps.getD p undef=.pointer (some ⟨g,0,none⟩)) (hv:tmps.getD q undef=v) (hg:w.heap[g]?=some (.cells cs t fr))
  (hu:P.underlying ty=some d) (hd:(match d with|.struct _|.array _ _=>true|_=>false)=true) (hi:(P.info? ty).map (·.size)=some cs.size) :
  (results fn tmps).run P w=.ok (.tuple #[.agg cs,v]) w:=by
 have a:tmps[p]?.getD undef=.pointer (some ⟨g,0,none⟩):=by simpa using hp
 have hv':tmps[q]?.getD undef=v:=by simpa using hv
 simp[results,h,a,hv',asAddr,run_loadVar_row w g t ty cs fr d hg hu hd hi]
theorem range_one{w:V8}{b:Nat}{T:Wj}{f:Nat→Int}(h:af w b T (ints 26 f)):∀k,k<1→w.rangeAt b (k*26) (ints 26 f).toList:=fun k hk=>by
 have:k=0:=vom;subst this;exact h.range
theorem IF{w:V8}{b:Nat}{T:Wj}{f g:Nat→Int}(h:af w b T (ints (2*26) fun i=>if i<26 then f i else g (i-26))):∀k,k<2→w.rangeAt b (k*26) (ints 26 (if k=0 then f else g)).toList:=fun k hk j v hv=>by
 have hj:j<26:=by
  have:=(WW.1 hv).1;simpa[ag]using this
 have hv':(ints 26 (if k=0 then f else g))[j]?=some v:=by simpa using hv
 rw[aB _ hj]at hv';have hc:=h.cell (aB (n:=2*26) (fun i=>if i<26 then f i else g (i-26)) (i:=k*26+j) vom);rw[hc,←hv'];rcases(by omega:k=0∨k=1)with rfl|rfl
 ·simp[hj]
 ·simp
  intro h5;omega
theorem Rk{w W1:V8}{T:Wj}{f g z c:Nat→Int}{n:Nat}(hb:Below ((((w.alloc (.cells (ints 26 f) T)).alloc (.cells (ints 26 g) T)).alloc (.cells (ints 26 z) T)).alloc (.cells (ints n c) T)).heap.size ((((w.alloc (.cells (ints 26 f) T)).alloc (.cells (ints 26 g) T)).alloc (.cells (ints 26 z) T)).alloc (.cells (ints n c) T)) W1):
  af W1 w.heap.size T (ints 26 f)∧af W1 (w.heap.size+1) T (ints 26 g)∧af W1 (w.heap.size+1+1) T (ints 26 z)∧Below w.heap.size w W1∧w.heap.size+4≤W1.heap.size:=by
 have hs:=hb.size;simp at hs;refine⟨af.below (((af.new w _ _).alloc _).alloc _ |>.alloc _) hb (by simp<;>omega),af.below ?_ hb (by simp<;>omega),af.below ?_ hb vsi,?_,hs⟩
 ·have:=af.new (w.alloc (.cells (ints 26 f) T)) T (ints 26 g)
  rw[WI]at this;exact(this.alloc _).alloc _
 ·have:=af.new ((w.alloc (.cells (ints 26 f) T)).alloc (.cells (ints 26 g) T)) T (ints 26 z)
  rw[WI,WI]at this;exact this.alloc _
 ·exact((((((Below.refl _ _).alloc (R3 _) _).alloc vsi _).alloc (by simp<;>omega) _).alloc (by simp<;>omega) _).trans (hb.mono (by simp<;>omega)))
theorem Sk{w W1:V8}{T:Wj}{f z c:Nat→Int}{n:Nat}(hb:Below (((w.alloc (.cells (ints 26 f) T)).alloc (.cells (ints 26 z) T)).alloc (.cells (ints n c) T)).heap.size (((w.alloc (.cells (ints 26 f) T)).alloc (.cells (ints 26 z) T)).alloc (.cells (ints n c) T)) W1):
  af W1 w.heap.size T (ints 26 f)∧af W1 (w.heap.size+1) T (ints 26 z)∧Below w.heap.size w W1∧w.heap.size+3≤W1.heap.size:=by
 have hs:=hb.size;simp at hs;refine⟨af.below (((af.new w _ _).alloc _).alloc _) hb (by simp<;>omega),af.below ?_ hb vsi,?_,hs⟩
 ·have:=af.new (w.alloc (.cells (ints 26 f) T)) T (ints 26 z)
  rw[WI]at this;exact this.alloc _
 ·exact(((((Below.refl _ _).alloc (R3 _) _).alloc vsi _).alloc (by simp<;>omega) _).trans (hb.mono (by simp<;>omega)))
theorem Rh{w W1:V8}{T:Wj}{f c:Nat→Int}{n:Nat}(hb:Below ((w.alloc (.cells (ints 26 f) T)).alloc (.cells (ints n c) T)).heap.size ((w.alloc (.cells (ints 26 f) T)).alloc (.cells (ints n c) T)) W1):
  af W1 w.heap.size T (ints 26 f)∧Below w.heap.size w W1∧w.heap.size+2≤W1.heap.size:=by
 have hs:=hb.size;simp at hs;refine⟨af.below ((af.new w _ _).alloc _) hb (by simp<;>omega),?_,hs⟩;exact((((Below.refl _ _).alloc (R3 _) _).alloc vsi _).trans (hb.mono (by simp<;>omega)))
theorem af.newAt{w:V8}{b:Nat}{T:Wj}{c:Array R2}(h:b=w.heap.size):af (w.alloc (.cells c T)) b T c:=by subst h;exact af.new _ _ _
end PK
end Go.Proofs.YtpcnpkhgjanamaaGreatDoor
