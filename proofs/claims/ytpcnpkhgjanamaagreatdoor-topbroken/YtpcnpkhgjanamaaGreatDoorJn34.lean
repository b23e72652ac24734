import Derived.Test.YtpcnpkhgjanamaaGreatDoorPz
import Derived.Conc.CompanyWords
import Derived.Conc.TokenWalk
import Derived.Test.YtpcnpkhgjanamaaGreatDoorJn33
namespace Go.Proofs.YtpcnpkhgjanamaaGreatDoor
open Go.Proofs.Tryz renaming prog→qf,f33→Yf,f27→Yg,f67→Zd,f55→Ze
open Go renaming Value→R2,World→V8,undef→Wb,Goroutine→Wi,Program→Wr,Frame→WG,stepG→Xe,FuncId→Xg,Operand→Yb,execOp→Yn
open Go.Conc renaming mem_listed→Xi,served→Xr,goes_oper_k→XC
open Go.Instr renaming loadAt→XO,index→Yc
open Go.Conc.Goes renaming step→XY,stop→Y8
set_option maxRecDepth 100000
set_option maxHeartbeats 8000000
section
open Go.RowKit PK Vg
def sI(g:Gm)(h:Int):Int:=if gE g≠0 then gE g else if 3<g.n then 4 else if h<1∨16<h then 3 else 0
theorem gI{g:Gm}{h:Int}(e:sI g h=0):gE g=0∧g.n≤3∧1≤h∧h≤16:=by
 unfold sI at e;by_cases h1:gE g=0
 ·rw[V9 (fun e=>e h1)]at e
  by_cases h2:3<g.n
  ·rw[Wc h2]at e;cases e
  ·rw[V9 h2]at e
   by_cases h3:h<1∨16<h
   ·rw[Wc h3]at e;cases e
   ·omega
 ·rw[Wc h1]at e;exact absurd e h1
theorem Fu(vm:R2)(g:Gm)(h:Int)(w:V8)(hm:cL w vm g):Calls qf 54 #[vm,.int .i64 h] w fun e w'=>e=.returned (.int .i64 (sI g h))∧Below w.heap.size w w':=by
 have HC:Hid (∀W,Below w.heap.size w W→Calls qf 51 #[vm] W fun e w'=>e=.returned (.int .i64 (gE g))∧Below W.heap.size W w'):=fun W hb=>zf vm g W (hm.below hb);obtain⟨a,b,c,rfl,k,_,_⟩:=hm;obtain⟨aw,cw,R,rfl,l,_,_⟩:=k;unfold maxLen at l;have f:=af.new w 35 (aP (.slice aw g.n cw) b c g.rf g.pl);have d:=(Below.refl w.heap.size w).alloc (R3 _) (.cells (aP (.slice aw g.n cw) b c g.rf g.pl) 35);have m:Hid ((aP (.slice aw g.n cw) b c g.rf g.pl)[0]?=some (.slice aw g.n cw)):=dV _ _ _ _ _;have j:(aP (.slice aw g.n cw) b c g.rf g.pl).size=55:=aD _ _ _ _ _;generalize aP (.slice aw g.n cw) b c g.rf g.pl=A0 at *;go_enter Tryz.func54,Tryz.ntmps54
 go_upto_region 1 with fail
 generalize w.alloc (.cells A0 35)=W0 at *
 go_wp2_with (first|refine Wn rfl 35 _ rfl w.heap.size rfl 35 A0 (0,0) _ f Tryz.underlying35 rfl (by rw[j];exact aE) ?_)
 refine(HC.out _ d).mono ?_;rintro e W1 ⟨rfl,hb⟩;have i:=f.below hb f.lt;have HB:Hid (Below w.heap.size w W1):=d.trans (hb.mono d.size);have c0:=i.cell m.out;clear hb f d HC i;by_cases hz:gE g=0
 case neg=>
  have q:(gE g != 0)=true:=by simpa using hz
  have HE:Hid (sI g h=gE g):=by unfold sI;rw[Hid,Wc hz]
  generalize gE g=E at *;clear hz c0;go_wp2;go_ret;exact⟨by rw[HE.out];rfl,HB.out⟩
 rw[hz];by_cases h3:3<g.n
 ·have HE:Hid (sI g h=4):=by unfold sI;rw[Hid,V9 (fun e=>e hz),Wc h3]
  have o:(3:Int)<(g.n:Int):=vom;clear hz;generalize g.n=n at *;clear h3;go_wp2;go_ret;exact⟨by rw[HE.out];rfl,HB.out⟩
 have o:¬(3:Int)<(g.n:Int):=vom;by_cases h4:h<1
 ·have HE:Hid (sI g h=3):=by unfold sI;rw[Hid,V9 (fun e=>e hz),V9 h3,Wc (.inl h4)]
  clear hz;generalize g.n=n at *;clear h3;go_wp2;go_ret;exact⟨by rw[HE.out];rfl,HB.out⟩
 by_cases h5:16<h
 ·have HE:Hid (sI g h=3):=by unfold sI;rw[Hid,V9 (fun e=>e hz),V9 h3,Wc (.inr h5)]
  clear hz;generalize g.n=n at *;clear h3;go_wp2;go_ret;exact⟨by rw[HE.out];rfl,HB.out⟩
 have HE:Hid (sI g h=0):=by unfold sI;rw[Hid,V9 (fun e=>e hz),V9 h3,V9 vom]
 clear hz;generalize g.n=n at *;clear h3;go_wp2;go_ret;exact⟨by rw[HE.out];rfl,HB.out⟩
def MW(W:V8)(u:R2)(m:Nat)(f:Nat→Int):Prop:=∃B,W.ownsRow B 3 1 u m (ints m f).toList
theorem MW.below{W W':V8}{u:R2}{m:Nat}{f:Nat→Int}(h:MW W u m f)(hb:Below W.heap.size W W'):MW W' u m f:=by
 obtain⟨B,h⟩:=h;exact⟨B,kr h hb⟩
theorem MW.form{W:V8}{u:R2}{m:Nat}{f:Nat→Int}(h:MW W u m f):(u=.slice none 0 0∧m=0)∨∃g c,u=.slice (some ⟨g,0,none⟩) m c:=by
 obtain⟨B,h⟩:=h;rcases h.2 with⟨rfl,h0⟩|⟨g,cap,cur,rfl,_⟩
 ·exact .inl ⟨rfl,h0⟩
 ·exact .inr ⟨g,cap,rfl⟩
def two(f g:Nat→Nat):Nat→Nat→Nat:=fun r=>if r=0 then f else g
theorem FF(u v:R2)(n k:Nat)(f g:Nat→Int)(w:V8)(hu:aq w u n f)(hv:aq w v k g):
  Calls qf 9 #[u,v] w fun e w'=>e=.returned (.bool (uL n k f g))∧Below w.heap.size w w':=by
 obtain⟨a,ca,rfl,A,q⟩:=hu;obtain⟨b,cb,rfl,_,s⟩:=hv;have HA:Hid (∀c,c<n→∃b o,a=some ⟨b,o,none⟩∧w.cell? ⟨b,o+c,none⟩=some (.int .i64 (f c))):=q;have HB:Hid (∀c,c<k→∃b' o,b=some ⟨b',o,none⟩∧w.cell? ⟨b',o+c,none⟩=some (.int .i64 (g c))):=s;unfold maxLen at A;clear q s;by_cases hnk:n=k
 case neg=>
  have h1:(((n:Nat):Int) != ((k:Nat):Int))=true:=vso
  have HF:Hid (uL n k f g=false):=by
   cases hq:uL n k f g
   ·rfl
   ·exact absurd (gB.1 hq).1 hnk
  clear hnk HA HB;go_enter Tryz.func9,Tryz.ntmps9;go_wp2;go_ret;exact⟨by rw[HF.out];rfl,Below.refl _ _⟩
 subst hnk;have h1:(((n:Nat):Int) != ((n:Nat):Int))=false:=vsi;go_enter Tryz.func9,Tryz.ntmps9
 go_wp2_with fail
 go_loopw [13] (fun i W=>∃m:Nat,m≤n∧i=.int .i64 m∧Below w.heap.size w W∧∀j,j<m→f j=g j) (fun i _=>((n:Int)-intOf i).toNat)
 case atStart=>exact⟨0,vom,rfl,Below.refl _ _,fun j hj=>by omega⟩
 case round=>
  obtain⟨m,hm,rfl,hb,hj⟩:=hrel;by_cases hlt:m<n
  ·obtain⟨b1,o1,e1,h⟩:=HA.out m hlt
   obtain⟨b2,o2,e2,d⟩:=HB.out m hlt;subst e1 e2;have c1:=(hb.cell (p:=⟨b1,o1+m,none⟩) (aA h)).trans h;have c2:=(hb.cell (p:=⟨b2,o2+m,none⟩) (aA d)).trans d;have HJ:Hid _:=hj;have l:Hid (m<n):=hlt;have D:(m:Int)<(n:Int):=vom;have HX:Hid (∀x y,x=f m→y=g m→(x=y↔f m=g m)):=fun x y h1 h2=>by rw[h1,h2]
   obtain⟨x,hx⟩:∃x,x=f m:=⟨_,rfl⟩
   obtain⟨y,hy⟩:∃y,y=g m:=⟨_,rfl⟩
   have t:Hid (x=y↔f m=g m):=HX.out x y hx hy;rw[←hx]at c1;rw[←hy]at c2;clear h d hj hx hy HX hlt;by_cases hxy:x=y
   ·have B:(x != y)=false:=by simp[hxy]
    have z:Hid (∀j,j<m+1→f j=g j):=fun j hj=>by
     by_cases e:j=m
     ·rw[e];exact t.out.1 hxy
     ·exact HJ.out j vom
    clear hxy
    go_wp2_with fail
    go_quiet (fail)
    go_wp2;go_roundw
    case rel=>exact⟨m+1,l.out,by go_num,⟨hb.os,hb.tape,hb.output,hb.size,hb.block⟩,z.out⟩
    case measure=>have:=l.out;simp[intOf];omega
   ·have B:(x != y)=true:=by simp[hxy]
    have HF:Hid (uL n n f g=false):=by
     cases hq:uL n n f g
     ·rfl
     ·exact absurd (t.out.2 ((gB.1 hq).2 m l.out)) hxy
    clear hxy
    go_wp2_with fail
    go_quiet (fail)
    go_wp2;go_ret;exact⟨by rw[HF.out];rfl,⟨hb.os,hb.tape,hb.output,hb.size,hb.block⟩⟩
  ·have E:¬(m:Int)<(n:Int):=vom
   have HT:Hid (uL n n f g=true):=gB.2 ⟨rfl,fun i hi=>hj i vom⟩;have C:Hid _:=hb;clear hj hb hlt;go_wp2;go_ret;exact⟨by rw[HT.out];rfl,C.out⟩
def jw(g:Gm)(m:Nat→Nat)(fb:Nat→Nat→Int)(j:Nat):List Nat:=(List.range j).filter (nL g m fb)
theorem CW(g:Gm)(m:Nat→Nat)(fb:Nat→Nat→Int)(j:Nat):jw g m fb (j+1)=jw g m fb j++if nL g m fb j=true then[j]else[]:=by
 unfold jw;rw[ZI,Yu]
 have key:∀X,List.filter (nL g m fb) [X]=if nL g m fb X=true then[X]else[]:=fun X=>by
  cases h:nL g m fb X<;>simp[List.filter,h]
 rw[key]
theorem y5(g:Gm)(m:Nat→Nat)(fb:Nat→Nat→Int)(k j:Nat):jw g m fb (k*26 ^ (g.n-1)+j)=jw g m fb (k*26 ^ (g.n-1))++cj g m fb k j:=by
 induction j with
 |zero=>simp[cj]
 |succ j ih=>rw[←XS,CW,ih,sJ,List.append_assoc]
def cZ(L:Nat→List Nat):Nat→List Nat
 |0=>[]
 |k+1=>cZ L k++L k
theorem qQ(g:Gm)(m:Nat→Nat)(fb:Nat→Nat→Int)(k:Nat):cZ (fun k=>cj g m fb k (26 ^ (g.n-1))) k=jw g m fb (k*26 ^ (g.n-1)):=by
 induction k with
 |zero=>simp[cZ,jw]
 |succ k ih=>rw[cZ,ih,Y5,y5]
theorem tT(g:Gm)(m:Nat→Nat)(fb:Nat→Nat→Int)(hn:1≤g.n):cZ (fun k=>cj g m fb k (26 ^ (g.n-1))) 26=jw g m fb (26 ^ g.n):=by
 rw[qQ,Nat.mul_comm,←Nat.pow_succ,Nat.succ_eq_add_one,show g.n-1+1=g.n by omega]
theorem vv{L:Nat→List Nat}{M:Nat}(h:∀k,(L k).length≤M)(k:Nat):(cZ L k).length≤k*M:=by
 induction k with
 |zero=>simp[cZ]
 |succ k ih=>
  have:=h k;rw[cZ,WM,Y5];omega
def RQ(W:V8)(v:R2)(L:List Nat)(m:Nat):Prop:=(v=.slice none 0 0∧L=[])∨∃(b o c:Nat) (vs:List R2),v=.slice (some ⟨b,o,none⟩) L.length c∧vs.length=L.length∧(∀(j:Nat) u,vs[j]?=some u→W.cell? ⟨b,o+j,none⟩=some u)∧(∀u∈vs,u.oneCell'=true)∧∀(j:Nat) u N,vs[j]?=some u→L[j]?=some N→aq W u m fun i=>((dx m N i:Nat):Int)
def Uk(W:V8)(B:Nat)(v:R2)(L:List Nat)(m:Nat):Prop:=∃vs:List R2,W.ownsRow B 31 1 v L.length vs∧∀(k:Nat) (u:R2) (N:Nat),vs[k]?=some u→L[k]?=some N→aq W u m fun i=>((dx m N i:Nat):Int)
theorem IS:(qf.info? 129).map (·.size)=some 26:=vkr
theorem zE(V:Nat→R2)(k:Nat)(hk:k<26)(w:V8):(Yc 129 (.agg (bJ 26 V)) (.int .i64 (k:Int))).run qf w=.ok (V k) w:=by
 have hs:(sizeOf 29).run qf w=.ok 1 w:=by
  have h1:(qf.info? 29).map (·.size)=some 1:=vkr;obtain⟨i,hi,hz⟩:=Xt.1 h1;simp[sizeOf,typeInfo,hi,hz]
 have hg:(bJ 26 V)[k]?=some (V k):=aM _ hk
 have hp:(part 29 (bJ 26 V) k).run qf w=.ok (V k) w:=by
  unfold part isAgg;simp[Sem.run_bind,run_underlying Tryz.underlying29,hg]
 generalize bJ 26 V=cs at *;simp[Yc,asIntOf,Sem.run_bind,run_underlying Tryz.underlying129,hs,hk,hp]
end
namespace Cs
open Go.Conc
abbrev pk{α : Type}: Bool→α→α→α
 |false,x,_=>x
 |true,_,y=>y
variable{hv:Bool}
noncomputable def lz(hv:Bool):Code:=(pk hv Zd Ze).body.getD .skip
noncomputable def jJ(hv:Bool):Code:=match(lz hv)with|.seq (.seq _ (.block _ (.loop c))) _=>c|_=>.skip
noncomputable def lA(hv:Bool):Code:=match(lz hv)with|.seq _ r=>r|_=>.skip
noncomputable def ud(hv:Bool):Code:=match(jJ hv)with|.seq _ r=>r|_=>.skip
noncomputable def xC(hv:Bool):Array Oper:=match(jJ hv)with|.seq (.region _ o _) _=>o|_=>#[]
noncomputable def vA(hv:Bool):Array Oper:=match(ud hv)with|.seq _ (.block _ (.seq _ (.region _ o _)))=>o|_=>#[]
noncomputable def xQ(hv:Bool):Array Oper:=match(lA hv)with|.region _ o _=>o|_=>#[]
def wB(hv:Bool):WG:={ (default:WG)with fn:=(pk hv 67 55),kind:=.deferred }
noncomputable def tf:WG:={ (default:WG)with fn:=qf.funcs.size,defers:=[],mode:=.panicking [goexitEntry] }
theorem EO:(xC hv)[0]?=some ((xC hv).getD 0 default):=by cases hv<;>rfl
theorem Nd:(xQ hv)[1]?=some ((xQ hv).getD 1 default):=by cases hv<;>rfl
theorem SZ:(qf.funcs[(wB hv).fn]?).any (·.norace)=false:=by cases hv<;>kernel_rfl
theorem fV(c:fX)(w:V8):DQ c w w #[]:=⟨rfl,rfl,rfl,rfl,fun e he=>by simp at he⟩
theorem jN{b:WG}{a:Act}{ops:Array Oper}{i:Nat}{rest:List Nat}{k:List Item}{cs:List WG}{v:R2}{o:Oper}(ho:ops[i]?=some o):Xr (G (b.at a (.inRegion ops (i :: rest) :: k)) cs) v=G (b.at (a.put o.dst v) (.inRegion ops rest :: k)) cs:=by
 have hfin:(b.at a (.inRegion ops (i :: rest) :: k)).finish v=b.at (a.put o.dst v) (.inRegion ops rest :: k):=by rw[Frame.finish_at,ho];rfl
 show G ((b.at a (.inRegion ops (i :: rest) :: k)).finish v) cs=_;rw[hfin]
theorem gD{P:Wr}{ρ:Yb→R2}{o:Oper}{ty:TypeId}{x:Yb}{p v:R2}{w:V8}(ho:o.op=.load ty x)(hx:ρ x=p)(h:(XO ty p).run P w=.ok v w):(Yn ρ o).run P w=.ok (.value v) w:=by
 unfold Yn;simp only[ho,hx];generalize XO ty p=s at h⊢;simp[go_sem,h]
theorem eP{P:Wr}{ρ:Yb→R2}{o:Oper}{ty:TypeId}{x:Yb}{p:R2}{w:V8}(ho:o.op=.load ty x)(hx:ρ x=p):(Yn ρ o).events P w #[]=(XO ty p).events P w #[]:=by
 unfold Yn;simp only[ho,hx];generalize XO ty p=s;simp[go_sem]
theorem A5(P:Wr)(w:V8)(es:Array Event)(ad:Addr)(m:Mode)(b:Option Addr)(l cp:Nat):(store ad (.slice b l cp) m).events P w es=storedEv P w es ad (.slice b l cp) m:=events_store P w es ad _ m rfl
structure Fj(c:fX)(bF bM bL bD:Nat)(vm vl:R2):Prop where
 fx:c.Fix bF∧c.Fix bM∧c.Fix bL∧c.Fix bD
 UM:∀w,c.Ok w→w.cell? ⟨bF,0,none⟩=some (.chan (some c.C1))
 UZ:∀w,c.Ok w→w.cell? ⟨bD,0,none⟩=some (.chan (some c.C2))
 VZ:∀w,c.Ok w→w.cell? ⟨bL,0,none⟩=some vl
 VH:∀w,c.Ok w→(XO 35 (.pointer (some ⟨bM,0,none⟩))).run qf w=.ok vm w
 VI:∀w,c.Ok w→∀e∈(XO 35 (.pointer (some ⟨bM,0,none⟩))).events qf w #[],∃a:Addr,e=⟨.cell a,false,false⟩∧c.Fix a.block
theorem CD {P : Wr} {main : Bool} {b : WG} {a : Act} {k : List Item} {cs : List WG} {w : V8} {ops : Array Oper} {i : Nat} {rest : List Nat} {o : Oper} {K : Wi → V8 → Array Event → Prop} {f : Xg} {fn : Func} {args : Array Yb} {ats : Array TypeId} (ho : ops[i]? = some o) (hw : Region.wanted o (yielded ops a.tmps) = true) (hk : b.kind ≠ .early) (hop : o.op = .call { callee := .value (.func f), args, argTypes := ats }) (hf : P.funcs[f]? = some fn) (hname : (fn.name == "runtime.NumGoroutine") = false) (hb : fn.body.isNone = false) (h : K (G (Frame.enter P f (args.map a.eval) .normal) (b.at a (.inRegion ops (i :: rest) :: k) :: cs)) w #[]) : (Xe P main (G (b.at a (.inRegion ops (i :: rest) :: k)) cs) w).goes K := by
 rw[stepG_enter ho hw hk (run_call_body hop hf hname hb)];have:listed P b.fn a o w=#[]:=by unfold listed;rw[events_call_body hop hf hname hb];exact seen_none P _
 rw[this];exact h
theorem wk {p : Prop} (h : p := by
    repeat(first
      | (refine Y8 fun w₁ _ => ⟨rfl, ?_⟩
         repeat(first|exact rfl|apply Exists.intro)
         done)
      |(refine XY rfl (fun w₁ h₁=>?_);walk_rw;refine⟨fV c w₁,?_⟩)
      | (refine XY rfl (fun w₁ h₁ => ?_)
         refine XC rfl rfl vde (fun K hK=>?_);have hF:=k.UM w₁ h₁;have hD:=k.UZ w₁ h₁;have hL:=k.VZ w₁ h₁;go_simp;refine hK _ _ ⟨⟨rfl,rfl,rfl,rfl,fun e he=>?_⟩,?_⟩
         · have hm:=Xi he
           simp[go_sem, *]at hm
           try(subst hm;first|exact⟨_,rfl,k.fx.1⟩|exact⟨_,rfl,k.fx.2.1⟩|exact⟨_,rfl,k.fx.2.2.1⟩|exact⟨_,rfl,k.fx.2.2.2⟩)
         clear hK K hF hD hL h₁)
      | (refine XY rfl (fun w₁ h₁ => ?_)
         rw[stepG_cond (t:=true) rfl];simp only[goes_go,↓reduceIte];refine⟨fV c w₁,?_⟩)
      | (refine XY rfl (fun w₁ h₁ => ?_)
         rw[stepG_cond (t:=false) rfl];simp only[goes_go,WV,↓reduceIte];refine⟨fV c w₁,?_⟩)
      | (refine XY rfl (fun w₁ h₁ => ?_)
         apply goes_exit
         · rfl
         refine⟨fV c w₁,?_⟩)
      | (refine XY rfl (fun w₁ h₁ => ?_)
         rw[stepG_value (v:=vm) (w':=w₁) rfl rfl vde (gD rfl rfl (k.VH w₁ h₁))];simp only[goes_go];refine⟨⟨rfl,rfl,rfl,rfl,fun e he=>k.VI w₁ h₁ e (by have hm:=Xi he;rw[eP rfl rfl]at hm;exact hm)⟩,?_⟩)
      | (refine XY rfl (fun w₁ h₁ => ?_)
         refine CD rfl rfl vde rfl (by first|exact Tryz.func68|exact Tryz.func56) vkr vrf ?_;simp only[List.map_toArray,Y9,List.map_nil];refine⟨fV c w₁,?_⟩))) : p:=h
def Il(hv:Bool)(c:fX)(bF bM bL bD:Nat)(g:Wi):Prop:=∃v5 v7 v8 v9 v10 v11 v12 v13 v14 v15 v16:R2,g=G ((wB hv).at ⟨#[.pointer (some ⟨bF,0,none⟩),.pointer (some ⟨bM,0,none⟩),.pointer (some ⟨bL,0,none⟩),.pointer (some ⟨c.Fd,0,none⟩),.pointer (some ⟨bD,0,none⟩),v5,.chan (some c.C1),v7,v8,v9,v10,v11,v12,v13,v14,v15,v16],[]⟩ [.inRegion (xC hv) [0,1],.code (ud hv),.inLoop (jJ hv),.inBlock 0,.code (lA hv)]) [tf]
def Sl(hv:Bool)(c:fX)(bF bM bL bD:Nat)(g:Wi):Prop:=∃v5 v6 v7 v8 v9 v10 v11 v12 v13 v14 v15:R2,g=G ((wB hv).at ⟨#[.pointer (some ⟨bF,0,none⟩),.pointer (some ⟨bM,0,none⟩),.pointer (some ⟨bL,0,none⟩),.pointer (some ⟨c.Fd,0,none⟩),.pointer (some ⟨bD,0,none⟩),v5,v6,v7,v8,v9,v10,v11,v12,v13,v14,v15,.chan (some c.C2)],[]⟩ [.inRegion (xQ hv) [1]]) [tf]
noncomputable def Kh(hv:Bool)(c:fX)(bF bM bL bD:Nat)(vm vl:R2)(k:Nat)(v5 v7 v8 v9 v14 v15 v16:R2):WG:=(wB hv).at ⟨#[.pointer (some ⟨bF,0,none⟩),.pointer (some ⟨bM,0,none⟩),.pointer (some ⟨bL,0,none⟩),.pointer (some ⟨c.Fd,0,none⟩),.pointer (some ⟨bD,0,none⟩),v5,.chan (some c.C1),v7,v8,v9,.int .i64 (k:Nat),vm,.int .i64 (k:Nat),vl,v14,v15,v16],[]⟩ (.inRegion (vA hv) [4,5,6] :: [.inBlock 1,.inLoop (jJ hv),.inBlock 0,.code (lA hv)])
def QJ(hv:Bool)(c:fX)(bF bM bL bD:Nat)(vm vl:R2)(k:Nat)(g:Wi):Prop:=∃v5 v7 v8 v9 v14 v15 v16:R2,g=G (Frame.enter qf (pk hv 68 56) #[vm,.int .i64 (k:Nat),vl] .normal) [Kh hv c bF bM bL bD vm vl k v5 v7 v8 v9 v14 v15 v16,tf]
def RB(hv:Bool)(c:fX)(bF bM bL bD:Nat)(k:Nat)(v:R2)(g:Wi):Prop:=∃v5 v7 v8 v9 v10 v11 v12 v13 v16:R2,g=G ((wB hv).at ⟨#[.pointer (some ⟨bF,0,none⟩),.pointer (some ⟨bM,0,none⟩),.pointer (some ⟨bL,0,none⟩),.pointer (some ⟨c.Fd,0,none⟩),.pointer (some ⟨bD,0,none⟩),v5,.chan (some c.C1),v7,v8,v9,v10,v11,v12,v13,v,.pointer (some ⟨c.Fd,k,none⟩),v16],[]⟩ (.inRegion (vA hv) [6] :: [.inBlock 1,.inLoop (jJ hv),.inBlock 0,.code (lA hv)])) [tf]
section
variable{c:fX}{bF bM bL bD:Nat}{vm vl:R2}{g:Wi}{w:V8}
theorem RP(h:Il hv c bF bM bL bD g):EC g∧∀w,Xe qf false g w=.comm g #[rcase c.C1 (.int .i64 0)] true (.recv true) w #[]:=by
 obtain⟨v5,v7,v8,v9,v10,v11,v12,v13,v14,v15,v16,rfl⟩:=h;refine⟨⟨_,_,rfl⟩,fun w=>?_⟩;cases hv
 all_goals
  simp only[xC,jJ,lz,pk,Zd,Ze,Ww];rw[stepG_comm (cases:=#[rcase c.C1 (.int .i64 0)]) (blocking:=true) (shape:=.recv true) (w':=w) rfl rfl vde (by simp[Yn,rcase,go_sem])];rw[listed_nil (by simp[go_sem])]
theorem LW(k:Fj c bF bM bL bD vm vl)(h:Il hv c bF bM bL bD g):∃m,Walk qf c false (Sl hv c bF bM bL bD) m (Xr g (.tuple #[.int .i64 0,.bool false])) w:=by
 obtain⟨v5,v7,v8,v9,v10,v11,v12,v13,v14,v15,v16,rfl⟩:=h;refine⟨0+30,?_⟩;show Goes _ _ _ _ _ _ _ _;rw[jN EO];cases hv
 all_goals
  simp only[xC,ud,lA,jJ,lz,pk,Zd,Ze,Ww];exact wk
theorem Mu(k:Fj c bF bM bL bD vm vl)(h:Il hv c bF bM bL bD g)(j:Nat):∃m,Walk qf c false (QJ hv c bF bM bL bD vm vl j) m (Xr g (.tuple #[.int .i64 (j:Nat),.bool true])) w:=by
 obtain⟨v5,v7,v8,v9,v10,v11,v12,v13,v14,v15,v16,rfl⟩:=h;refine⟨0+30,?_⟩;show Goes _ _ _ _ _ _ _ _;rw[jN EO];cases hv
 all_goals
  simp only[xC,ud,lA,jJ,lz,pk,Zd,Ze,Ww];exact wk
theorem Ny{j:Nat}(hj:j<26)(h:QJ hv c bF bM bL bD vm vl j g):∃cal rest,g=G (Frame.enter qf (pk hv 68 56) #[vm,.int .i64 (j:Nat),vl] .normal) (cal :: rest)∧∀v w,∃m,Walk qf c false (RB hv c bF bM bL bD j v) m (G (cal.finish v) rest) w:=by
 obtain⟨v5,v7,v8,v9,v14,v15,v16,rfl⟩:=h;refine⟨_,_,rfl,fun v w=>⟨0+30,?_⟩⟩;show Goes _ _ _ _ _ _ _ _
 have hfin:(Kh hv c bF bM bL bD vm vl j v5 v7 v8 v9 v14 v15 v16).finish v=(wB hv).at ⟨#[.pointer (some ⟨bF,0,none⟩),.pointer (some ⟨bM,0,none⟩),.pointer (some ⟨bL,0,none⟩),.pointer (some ⟨c.Fd,0,none⟩),.pointer (some ⟨bD,0,none⟩),v5,.chan (some c.C1),v7,v8,v9,.int .i64 (j:Nat),vm,.int .i64 (j:Nat),vl,v,v15,v16],[]⟩ (.inRegion (vA hv) [5,6] :: [.inBlock 1,.inLoop (jJ hv),.inBlock 0,.code (lA hv)]):=by
  unfold Kh;rw[Frame.finish_at];cases hv<;>rfl
 rw[hfin];cases hv
 all_goals
  simp only[vA,ud,lA,jJ,lz,pk,Zd,Ze,Ww];have hj':(j:Int)<26:=vom;refine XY rfl (fun w₁ h₁=>?_);rw[stepG_value (v:=.pointer (some ⟨c.Fd,j,none⟩)) (w':=w₁) rfl rfl vde (by simp[Yn,go_sem,hj'])];rw[listed_nil (by simp[go_sem,Instr.indexAt];omega)];simp only[goes_go];refine⟨fV c w₁,?_⟩;exact Y8 fun w₁ _=>⟨rfl,_,_,_,_,_,_,_,_,_,rfl⟩
theorem QK{j:Nat}(hj:j<c.K){a:Option Addr}{l cp:Nat}(h:RB hv c bF bM bL bD j (.slice a l cp) g):EC g∧∃g',(∀w,c.Ok w→Xe qf false g w=.go g' (w.setCell ⟨c.Fd,j,none⟩ (.slice a l cp)) #[⟨.cell ⟨c.Fd,j,none⟩,true,false⟩])∧g'.status=.running∧∀w,∃m,Walk qf c false (Il hv c bF bM bL bD) m g' w:=by
 obtain⟨v5,v7,v8,v9,v10,v11,v12,v13,v16,rfl⟩:=h;refine⟨⟨_,_,rfl⟩,G ((wB hv).at ⟨#[.pointer (some ⟨bF,0,none⟩),.pointer (some ⟨bM,0,none⟩),.pointer (some ⟨bL,0,none⟩),.pointer (some ⟨c.Fd,0,none⟩),.pointer (some ⟨bD,0,none⟩),v5,.chan (some c.C1),v7,v8,v9,v10,v11,v12,v13,.slice a l cp,.pointer (some ⟨c.Fd,j,none⟩),v16],[]⟩ (.inRegion (vA hv) [] :: [.inBlock 1,.inLoop (jJ hv),.inBlock 0,.code (lA hv)])) [tf],fun w ok=>?_,rfl,fun w=>⟨0+30,?_⟩⟩
 ·obtain⟨cs,hcs,hsz⟩:=ok.fd
  have hcell:w.cell? ⟨c.Fd,j,none⟩=some (cs.getD j Wb):=by
   unfold World.cell?;rw[hcs];simp[Array.getD_eq_getD_getElem?,show j<cs.size by omega]
  have hfz:w.frozen? ⟨c.Fd,j,none⟩=false:=by
   unfold World.frozen?;rw[hcs];simp
  cases hv
  all_goals
   simp only[vA,ud,lA,jJ,lz,pk,Zd,Ze,Ww];rw[stepG_none (w':=w.setCell ⟨c.Fd,j,none⟩ (.slice a l cp)) rfl rfl vde (by simp[Yn,go_sem,hcell,hfz])];unfold listed;rw[show Sem.events qf _ w #[]=#[⟨.cell ⟨c.Fd,j,none⟩,true,false⟩] by simp[Yn,go_sem,A5,storedEv,hcell,hfz]];rw[seen_eq SZ vsi]
   rfl
 ·show Goes _ _ _ _ _ _ _ _
  cases hv
  all_goals
   simp only[vA,ud,lA,jJ,lz,pk,Zd,Ze,Ww];exact wk
theorem RY(h:Sl hv c bF bM bL bD g):EC g∧(∀w,Xe qf false g w=.comm g #[scase c.C2 (.bool true) (.tuple #[])] true .send w #[])∧∃q,QuitsIn qf q (Xr g Wb):=by
 obtain⟨v5,v6,v7,v8,v9,v10,v11,v12,v13,v14,v15,rfl⟩:=h;refine⟨⟨_,_,rfl⟩,fun w=>?_,4,?_⟩
 ·cases hv
  all_goals
   simp only[xQ,lA,lz,pk,Zd,Ze,Ww];rw[stepG_comm (cases:=#[scase c.C2 (.bool true) (.tuple #[])]) (blocking:=true) (shape:=.send) (w':=w) rfl rfl vde (by simp[Yn,scase,go_sem])];rw[listed_nil (by simp[go_sem])]
 ·rw[jN Nd,show((xQ hv).getD 1 default).dst=none from by cases hv<;>rfl]
  show QuitsIn qf 4 (G ((wB hv).at ⟨#[.pointer (some ⟨bF,0,none⟩),.pointer (some ⟨bM,0,none⟩),.pointer (some ⟨bL,0,none⟩),.pointer (some ⟨c.Fd,0,none⟩),.pointer (some ⟨bD,0,none⟩),v5,v6,v7,v8,v9,v10,v11,v12,v13,v14,v15,.chan (some c.C2)],[]⟩ [.inRegion (xQ hv) []]) [tf]);refine .inr ⟨rfl,_,fun w=>stepG_region_end,?_⟩;refine .inr ⟨rfl,_,fun w=>stepG_end,?_⟩;refine .inr ⟨rfl,G tf [],fun w=>?_,?_⟩
  ·cases hv
   all_goals
    simp[G,Xe,unwind,doReturn,results,Frame.at,wB,tf,Tryz.func67,Tryz.func55,pk,Zd,Ze,seen,GStep.after,goexitEntry]
  refine .inr ⟨rfl,{ G tf []with status:=.finished },fun w=>?_,rfl⟩;simp[G,Xe,unwind,tf,goexitEntry,Frame.catches]
  rfl
def SJ(hv:Bool)(c:fX)(bF bM bL bD:Nat):Deferred:={ target:=.fn (.func (pk hv 67 55)) #[.pointer (some ⟨bF,0,none⟩),.pointer (some ⟨bM,0,none⟩),.pointer (some ⟨bL,0,none⟩),.pointer (some ⟨c.Fd,0,none⟩),.pointer (some ⟨bD,0,none⟩)],args:=#[] }
theorem D5(w:V8):Xe qf false (born qf (SJ hv c bF bM bL bD)) w =
  .go (G ((wB hv).at ⟨#[.pointer (some ⟨bF,0,none⟩),.pointer (some ⟨bM,0,none⟩),.pointer (some ⟨bL,0,none⟩),.pointer (some ⟨c.Fd,0,none⟩),.pointer (some ⟨bD,0,none⟩),Wb,Wb,Wb,Wb,Wb,Wb,Wb,Wb,Wb,Wb,Wb,Wb],[]⟩ [.code (lz hv)]) [tf]) w #[]:=by
 cases hv
 all_goals
  simp[born,SJ,Xe,unwind,callDeferred,invoke,callFunc,Tryz.func67,Tryz.func55,pk,Zd,Ze,seen,GStep.after,G,Frame.enter,Frame.at,wB,tf,lz]
theorem T8(k:Fj c bF bM bL bD vm vl):∃m,Walk qf c false (Il hv c bF bM bL bD) m (born qf (SJ hv c bF bM bL bD)) w:=by
 refine⟨(0+30)+1,XY rfl fun w₁ _=>?_⟩;rw[D5];refine⟨fV c w₁,?_⟩;cases hv
 all_goals
  simp only[lz,pk,Zd,Ze,Ww];exact wk
end
end Cs
namespace Cs
open Go.Conc
variable{hv:Bool}
noncomputable def dK(hv:Bool):Code:=(pk hv Yf Yg).body.getD .skip
noncomputable def Ab(hv:Bool):Code:=match(dK hv)with|.seq _ (.seq _ (.seq _ (.seq _ (.seq _ r))))=>r|_=>.skip
noncomputable def DI(hv:Bool):Code:=match(Ab hv)with|.seq _ r=>r|_=>.skip
noncomputable def Ki(hv:Bool):Code:=match(DI hv)with|.seq _ r=>r|_=>.skip
noncomputable def NT(hv:Bool):Code:=match(Ki hv)with|.seq _ r=>r|_=>.skip
noncomputable def Jn(hv:Bool):Code:=match(NT hv)with|.seq _ r=>r|_=>.skip
noncomputable def Sc(hv:Bool):Code:=match(Ab hv)with|.seq (.seq _ (.block _ (.loop c))) _=>c|_=>.skip
noncomputable def TZ(hv:Bool):Code:=match(DI hv)with|.seq (.seq _ (.block _ (.loop c))) _=>c|_=>.skip
noncomputable def Tb(hv:Bool):Code:=match(NT hv)with|.seq (.seq _ (.block _ (.loop c))) _=>c|_=>.skip
noncomputable def Nf(hv:Bool):Code:=match(Sc hv)with|.seq _ (.seq _ (.seq _ r))=>r|_=>.skip
noncomputable def Ud(hv:Bool):Code:=match(TZ hv)with|.seq _ (.seq _ (.seq _ r))=>r|_=>.skip
noncomputable def S8(hv:Bool):Code:=match(Tb hv)with|.seq _ (.seq _ (.seq _ r))=>r|_=>.skip
noncomputable def JL(hv:Bool):Array Oper:=match(Sc hv)with|.seq _ (.seq _ (.seq (.block _ (.region _ o _)) _))=>o|_=>#[]
noncomputable def LD(hv:Bool):Array Oper:=match(TZ hv)with|.seq _ (.seq _ (.seq (.block _ (.seq _ (.region _ o _))) _))=>o|_=>#[]
noncomputable def Ms(hv:Bool):Array Oper:=match(Ki hv)with|.seq (.region _ o _) _=>o|_=>#[]
noncomputable def L8(hv:Bool):Array Oper:=match(Tb hv)with|.seq _ (.seq _ (.seq (.block _ (.region _ o _)) _))=>o|_=>#[]
abbrev eN(hv:Bool):Xg:=pk hv 33 27
def eB(hv:Bool):WG:=base (eN hv)
theorem RM:(LD hv)[2]?=some ((LD hv).getD 2 default):=by cases hv<;>rfl
theorem RI:(L8 hv)[1]?=some ((L8 hv).getD 1 default):=by cases hv<;>rfl
def wM(hv:Bool)(c:fX)(bF bM bL bD n:Nat)(cs:List WG)(j:Nat)(g:Wi):Prop:=∃v0 v2 v4 v6 v7 v8 v12 v13 v14 v15 v16 v17 v18 v19 v20 v21 v22 v23 v24 v25 v28 v30 v31 v32 v33 v34 v35 v36 v37 v38 v39 v40 v41 v42 v43 v44 v45 v46 v47 v48 v49 v50 v51 v52:R2,g=G ((eB hv).at ⟨#[v0,.int .i64 (n:Nat),v2,.pointer (some ⟨bM,0,none⟩),v4,.pointer (some ⟨bL,0,none⟩),v6,v7,v8,.pointer (some ⟨c.Fd,0,none⟩),.pointer (some ⟨bF,0,none⟩),.pointer (some ⟨bD,0,none⟩),v12,v13,v14,v15,v16,v17,v18,v19,v20,v21,v22,v23,v24,v25,.int .i64 (n:Nat),.int .i64 (j:Nat),v28,.func (.func (pk hv 67 55)) #[] #[.pointer (some ⟨bF,0,none⟩),.pointer (some ⟨bM,0,none⟩),.pointer (some ⟨bL,0,none⟩),.pointer (some ⟨c.Fd,0,none⟩),.pointer (some ⟨bD,0,none⟩)],v30,v31,v32,v33,v34,v35,v36,v37,v38,v39,v40,v41,v42,v43,v44,v45,v46,v47,v48,v49,v50,v51,v52],[]⟩ [.inRegion (JL hv) [1],.inBlock 1,.code (Nf hv),.inLoop (Sc hv),.inBlock 0,.code (DI hv)]) cs
def AX(hv:Bool)(c:fX)(bF bM bL bD n:Nat)(cs:List WG)(j:Nat)(g:Wi):Prop:=∃v0 v2 v4 v6 v7 v8 v12 v13 v14 v15 v16 v17 v18 v19 v20 v21 v22 v23 v24 v25 v26 v27 v28 v29 v30 v32 v33 v36 v37 v38 v39 v40 v41 v42 v43 v44 v45 v46 v47 v48 v49 v50 v51 v52:R2,g=G ((eB hv).at ⟨#[v0,.int .i64 (n:Nat),v2,.pointer (some ⟨bM,0,none⟩),v4,.pointer (some ⟨bL,0,none⟩),v6,v7,v8,.pointer (some ⟨c.Fd,0,none⟩),.pointer (some ⟨bF,0,none⟩),.pointer (some ⟨bD,0,none⟩),v12,v13,v14,v15,v16,v17,v18,v19,v20,v21,v22,v23,v24,v25,v26,v27,v28,v29,v30,.int .i64 (j:Nat),v32,v33,.chan (some c.C1),.int .i64 (j:Nat),v36,v37,v38,v39,v40,v41,v42,v43,v44,v45,v46,v47,v48,v49,v50,v51,v52],[]⟩ [.inRegion (LD hv) [2],.inBlock 3,.code (Ud hv),.inLoop (TZ hv),.inBlock 2,.code (Ki hv)]) cs
def QN(hv:Bool)(c:fX)(bF bM bL bD n:Nat)(cs:List WG)(g:Wi):Prop:=∃v0 v2 v4 v6 v7 v8 v12 v13 v14 v15 v16 v17 v18 v19 v20 v21 v22 v23 v24 v25 v26 v27 v28 v29 v30 v31 v32 v33 v34 v35 v36 v38 v39 v40 v41 v42 v43 v44 v45 v46 v47 v48 v49 v50 v51 v52:R2,g=G ((eB hv).at ⟨#[v0,.int .i64 (n:Nat),v2,.pointer (some ⟨bM,0,none⟩),v4,.pointer (some ⟨bL,0,none⟩),v6,v7,v8,.pointer (some ⟨c.Fd,0,none⟩),.pointer (some ⟨bF,0,none⟩),.pointer (some ⟨bD,0,none⟩),v12,v13,v14,v15,v16,v17,v18,v19,v20,v21,v22,v23,v24,v25,v26,v27,v28,v29,v30,v31,v32,v33,v34,v35,v36,.chan (some c.C1),v38,v39,v40,v41,v42,v43,v44,v45,v46,v47,v48,v49,v50,v51,v52],[]⟩ [.inRegion (Ms hv) [1],.code (NT hv)]) cs
def AN(hv:Bool)(c:fX)(bF bM bL bD n:Nat)(cs:List WG)(j:Nat)(g:Wi):Prop:=∃v0 v2 v4 v6 v7 v8 v12 v13 v14 v15 v16 v17 v18 v19 v20 v21 v22 v23 v24 v25 v26 v27 v28 v29 v30 v31 v32 v33 v34 v35 v36 v37 v40 v42 v43 v44 v45 v46 v47 v48 v49 v50 v51 v52:R2,g=G ((eB hv).at ⟨#[v0,.int .i64 (n:Nat),v2,.pointer (some ⟨bM,0,none⟩),v4,.pointer (some ⟨bL,0,none⟩),v6,v7,v8,.pointer (some ⟨c.Fd,0,none⟩),.pointer (some ⟨bF,0,none⟩),.pointer (some ⟨bD,0,none⟩),v12,v13,v14,v15,v16,v17,v18,v19,v20,v21,v22,v23,v24,v25,v26,v27,v28,v29,v30,v31,v32,v33,v34,v35,v36,v37,.int .i64 (n:Nat),.int .i64 (j:Nat),v40,.chan (some c.C2),v42,v43,v44,v45,v46,v47,v48,v49,v50,v51,v52],[]⟩ [.inRegion (L8 hv) [1],.inBlock 5,.code (S8 hv),.inLoop (Tb hv),.inBlock 4,.code (Jn hv)]) cs
def Te(hv:Bool)(c:fX)(bF bM bL bD n:Nat)(cs:List WG)(g:Wi):Prop:=∃v0 v2 v4 v6 v7 v8 v12 v13 v14 v15 v16 v17 v18 v19 v20 v21 v22 v23 v24 v25 v26 v27 v28 v29 v30 v31 v32 v33 v34 v35 v36 v37 v38 v39 v40 v41 v42 v43 v44 v45 v46 v47 v48 v49 v50 v51 v52:R2,g=G ((eB hv).at ⟨#[v0,.int .i64 (n:Nat),v2,.pointer (some ⟨bM,0,none⟩),v4,.pointer (some ⟨bL,0,none⟩),v6,v7,v8,.pointer (some ⟨c.Fd,0,none⟩),.pointer (some ⟨bF,0,none⟩),.pointer (some ⟨bD,0,none⟩),v12,v13,v14,v15,v16,v17,v18,v19,v20,v21,v22,v23,v24,v25,v26,v27,v28,v29,v30,v31,v32,v33,v34,v35,v36,v37,v38,v39,v40,v41,v42,v43,v44,v45,v46,v47,v48,v49,v50,v51,v52],[]⟩ [.code (Jn hv)]) cs
section
variable{c:fX}{bF bM bL bD n:Nat}{vm vl:R2}{cs:List WG}{g:Wi}{w:V8}
theorem QY{j:Nat}(h:AX hv c bF bM bL bD n cs j g):EC g∧∀w,Xe qf true g w=.comm g #[scase c.C1 (.int .i64 (j:Nat)) (.tuple #[])] true .send w #[]:=by
 obtain⟨v0,v2,v4,v6,v7,v8,v12,v13,v14,v15,v16,v17,v18,v19,v20,v21,v22,v23,v24,v25,v26,v27,v28,v29,v30,v32,v33,v36,v37,v38,v39,v40,v41,v42,v43,v44,v45,v46,v47,v48,v49,v50,v51,v52,rfl⟩:=h;refine⟨⟨_,_,rfl⟩,fun w=>?_⟩;cases hv
 all_goals
  simp only[LD,TZ,DI,Ab,dK,pk,Yf,Yg,Ww];rw[stepG_comm (cases:=#[scase c.C1 (.int .i64 (j:Nat)) (.tuple #[])]) (blocking:=true) (shape:=.send) (w':=w) rfl rfl vde (by simp[Yn,scase,go_sem])];rw[listed_nil (by simp[go_sem])]
theorem Nv(k:Fj c bF bM bL bD vm vl){j:Nat}(hj:j<26)(h:AX hv c bF bM bL bD n cs j g):∃m,Walk qf c true (fun g=>if j+1<26 then AX hv c bF bM bL bD n cs (j+1) g else QN hv c bF bM bL bD n cs g) m (Xr g Wb) w:=by
 obtain⟨v0,v2,v4,v6,v7,v8,v12,v13,v14,v15,v16,v17,v18,v19,v20,v21,v22,v23,v24,v25,v26,v27,v28,v29,v30,v32,v33,v36,v37,v38,v39,v40,v41,v42,v43,v44,v45,v46,v47,v48,v49,v50,v51,v52,rfl⟩:=h;refine⟨0+60,?_⟩;show Goes _ _ _ _ _ _ _ _;rw[jN RM];cases hv
 all_goals
  simp only[LD,TZ,Ud,Ki,DI,Ab,dK,pk,Yf,Yg,Ww];have hwr:IntKind.i64.wrap ((j:Int)+1)=((j+1:Nat):Int):=by rw[IntKind.wrap_i64];omega
  by_cases hl:j+1<26
  ·simp only[Wc hl]
   have hl':decide ((j:Int)+1<26)=true:=vso;exact wk
  ·simp only[V9 hl]
   have hl':decide ((j:Int)+1<26)=false:=vso;exact wk
theorem Tz{j:Nat}(h:wM hv c bF bM bL bD n cs j g):EC g∧∃g',(∀w,Xe qf true g w=.spawn g' (born qf (SJ hv c bF bM bL bD)) w #[])∧∃v0 v2 v4 v6 v7 v8 v12 v13 v14 v15 v16 v17 v18 v19 v20 v21 v22 v23 v24 v25 v28 v30 v31 v32 v33 v34 v35 v36 v37 v38 v39 v40 v41 v42 v43 v44 v45 v46 v47 v48 v49 v50 v51 v52:R2,g'=G ((eB hv).at ⟨#[v0,.int .i64 (n:Nat),v2,.pointer (some ⟨bM,0,none⟩),v4,.pointer (some ⟨bL,0,none⟩),v6,v7,v8,.pointer (some ⟨c.Fd,0,none⟩),.pointer (some ⟨bF,0,none⟩),.pointer (some ⟨bD,0,none⟩),v12,v13,v14,v15,v16,v17,v18,v19,v20,v21,v22,v23,v24,v25,.int .i64 (n:Nat),.int .i64 (j:Nat),v28,.func (.func (pk hv 67 55)) #[] #[.pointer (some ⟨bF,0,none⟩),.pointer (some ⟨bM,0,none⟩),.pointer (some ⟨bL,0,none⟩),.pointer (some ⟨c.Fd,0,none⟩),.pointer (some ⟨bD,0,none⟩)],v30,v31,v32,v33,v34,v35,v36,v37,v38,v39,v40,v41,v42,v43,v44,v45,v46,v47,v48,v49,v50,v51,v52],[]⟩ [.inRegion (JL hv) [],.inBlock 1,.code (Nf hv),.inLoop (Sc hv),.inBlock 0,.code (DI hv)]) cs:=by
 obtain⟨v0,v2,v4,v6,v7,v8,v12,v13,v14,v15,v16,v17,v18,v19,v20,v21,v22,v23,v24,v25,v28,v30,v31,v32,v33,v34,v35,v36,v37,v38,v39,v40,v41,v42,v43,v44,v45,v46,v47,v48,v49,v50,v51,v52,rfl⟩:=h;refine⟨⟨_,_,rfl⟩,_,fun w=>?_,v0,v2,v4,v6,v7,v8,v12,v13,v14,v15,v16,v17,v18,v19,v20,v21,v22,v23,v24,v25,v28,v30,v31,v32,v33,v34,v35,v36,v37,v38,v39,v40,v41,v42,v43,v44,v45,v46,v47,v48,v49,v50,v51,v52,rfl⟩;obtain⟨D,hD⟩:∃D,D=SJ hv c bF bM bL bD:=⟨_,rfl⟩
 obtain⟨F,hFF⟩:∃F:Xg,F=pk hv 67 55:=⟨_,rfl⟩
 rw[←hD];cases hv
 all_goals
  simp only[JL,Sc,Ab,dK,pk,Yf,Yg,Ww];rw[stepG_spawn (d:=D) (w':=w) (f:=.func F) (c:=#[.pointer (some ⟨bF,0,none⟩),.pointer (some ⟨bM,0,none⟩),.pointer (some ⟨bL,0,none⟩),.pointer (some ⟨c.Fd,0,none⟩),.pointer (some ⟨bD,0,none⟩)]) rfl rfl vde (by simp[Yn,go_sem,hD,SJ,pk]) (by rw[hD,hFF];rfl)];rw[listed_nil (by simp[go_sem])]
  rfl
theorem Sf{j:Nat}(h:AN hv c bF bM bL bD n cs j g):EC g∧∀w,Xe qf true g w=.comm g #[rcase c.C2 (.bool false)] true (.recv false) w #[]:=by
 obtain⟨v0,v2,v4,v6,v7,v8,v12,v13,v14,v15,v16,v17,v18,v19,v20,v21,v22,v23,v24,v25,v26,v27,v28,v29,v30,v31,v32,v33,v34,v35,v36,v37,v40,v42,v43,v44,v45,v46,v47,v48,v49,v50,v51,v52,rfl⟩:=h;refine⟨⟨_,_,rfl⟩,fun w=>?_⟩;cases hv
 all_goals
  simp only[L8,Tb,NT,Ki,DI,Ab,dK,pk,Yf,Yg,Ww];rw[stepG_comm (cases:=#[rcase c.C2 (.bool false)]) (blocking:=true) (shape:=.recv false) (w':=w) rfl rfl vde (by simp[Yn,rcase,go_sem])];rw[listed_nil (by simp[go_sem])]
theorem NK(k:Fj c bF bM bL bD vm vl)(hn:n≤1000){j:Nat}(hj:j<n)(h:AN hv c bF bM bL bD n cs j g):∃m,Walk qf c true (fun g=>if j+1<n then AN hv c bF bM bL bD n cs (j+1) g else Te hv c bF bM bL bD n cs g) m (Xr g (.bool true)) w:=by
 obtain⟨v0,v2,v4,v6,v7,v8,v12,v13,v14,v15,v16,v17,v18,v19,v20,v21,v22,v23,v24,v25,v26,v27,v28,v29,v30,v31,v32,v33,v34,v35,v36,v37,v40,v42,v43,v44,v45,v46,v47,v48,v49,v50,v51,v52,rfl⟩:=h;refine⟨0+60,?_⟩;show Goes _ _ _ _ _ _ _ _;rw[jN RI];cases hv
 all_goals
  simp only[L8,Tb,S8,NT,Ki,DI,Ab,dK,pk,Yf,Yg,Ww];have hwr:IntKind.i64.wrap ((j:Int)+1)=((j+1:Nat):Int):=by rw[IntKind.wrap_i64];omega
  by_cases hl:j+1<n
  ·simp only[Wc hl]
   have hl':decide ((j:Int)+1<(n:Int))=true:=vso;exact wk
  ·simp only[V9 hl]
   have hl':decide ((j:Int)+1<(n:Int))=false:=vso;exact wk
theorem R4(k : Fj c bF bM bL bD vm vl)(hn : n≤1000){j : Nat}(hj : j < n)(h : ∃ v0 v2 v4 v6 v7 v8 v12 v13 v14 v15 v16 v17 v18 v19 v20 v21 v22 v23 v24 v25 v28 v30 v31 v32 v33 v34 v35 v36 v37 v38 v39 v40 v41 v42 v43 v44 v45 v46 v47 v48 v49 v50 v51 v52 : R2,g = G ((eB hv).at ⟨#[v0,.int .i64 (n : Nat),v2,.pointer (some ⟨bM,0,none⟩),v4,.pointer (some ⟨bL,0,none⟩),v6,v7,v8,.pointer (some ⟨c.Fd,0,none⟩),.pointer (some ⟨bF,0,none⟩),.pointer (some ⟨bD,0,none⟩),v12,v13,v14,v15,v16,v17,v18,v19,v20,v21,v22,v23,v24,v25,.int .i64 (n : Nat),.int .i64 (j : Nat),v28,.func (.func (pk hv 67 55)) #[] #[.pointer (some ⟨bF,0,none⟩),.pointer (some ⟨bM,0,none⟩),.pointer (some ⟨bL,0,none⟩),.pointer (some ⟨c.Fd,0,none⟩),.pointer (some ⟨bD,0,none⟩)],v30,v31,v32,v33,v34,v35,v36,v37,v38,v39,v40,v41,v42,v43,v44,v45,v46,v47,v48,v49,v50,v51,v52],[]⟩ [.inRegion (JL hv) [],.inBlock 1,.code (Nf hv),.inLoop (Sc hv),.inBlock 0,.code (DI hv)]) cs): ∃ m,Walk qf c true (fun g=>if j + 1 < n then wM hv c bF bM bL bD n cs (j + 1) g else AX hv c bF bM bL bD n cs 0 g) m g w:=by
  obtain⟨v0,v2,v4,v6,v7,v8,v12,v13,v14,v15,v16,v17,v18,v19,v20,v21,v22,v23,v24,v25,v28,v30,v31,v32,v33,v34,v35,v36,v37,v38,v39,v40,v41,v42,v43,v44,v45,v46,v47,v48,v49,v50,v51,v52,rfl⟩:=h;refine⟨0 + 60,?_⟩;show Goes _ _ _ _ _ _ _ _;obtain⟨F,hFF⟩ : ∃ F : Xg,F = pk hv 67 55:=⟨_,rfl⟩
  cases hv
  all_goals
    simp only[JL,Sc,Nf,DI,Ab,dK,pk,Yf,Yg,Ww];have hwr : IntKind.i64.wrap ((j : Int) + 1)=((j + 1 : Nat) : Int):=by rw[IntKind.wrap_i64];omega
    by_cases hl : j + 1 < n
    · simp only[Wc hl]
      have hl' : decide ((j : Int) + 1 < (n : Int))=true:=by simp;omega
      repeat(first
        |(refine XY rfl (fun w₁ h₁=>?_);walk_rw;refine⟨fV c w₁,?_⟩)
        | (refine XY rfl (fun w₁ h₁ => ?_)
           refine XC rfl rfl vde (fun K hK=>?_);have hF:=k.UM w₁ h₁;have hD:=k.UZ w₁ h₁;go_simp;refine hK _ _ ⟨⟨rfl,rfl,rfl,rfl,fun e he=>?_⟩,?_⟩
           · have hm:=Xi he
             simp[go_sem, *]at hm
             try(subst hm;first|exact⟨_,rfl,k.fx.1⟩|exact⟨_,rfl,k.fx.2.2.2⟩)
           clear hK K hF hD h₁))
      refine XY rfl (fun w₁ h₁=>?_);rw[stepG_cond (t:=true) rfl];simp only[goes_go,↓reduceIte];refine⟨fV c w₁,?_⟩
      repeat(first
        |(refine XY rfl (fun w₁ h₁=>?_);walk_rw;refine⟨fV c w₁,?_⟩)
        | (refine XY rfl (fun w₁ h₁ => ?_)
           refine XC rfl rfl vde (fun K hK=>?_);have hF:=k.UM w₁ h₁;have hD:=k.UZ w₁ h₁;go_simp;refine hK _ _ ⟨⟨rfl,rfl,rfl,rfl,fun e he=>?_⟩,?_⟩
           · have hm:=Xi he
             simp[go_sem, *]at hm
             try(subst hm;first|exact⟨_,rfl,k.fx.1⟩|exact⟨_,rfl,k.fx.2.2.2⟩)
           clear hK K hF hD h₁))
      try (refine XY rfl (fun w₁ h₁ => ?_)
           rw[stepG_value (v:=.func (.func F) #[] #[.pointer (some ⟨bF,0,none⟩),.pointer (some ⟨bM,0,none⟩),.pointer (some ⟨bL,0,none⟩),.pointer (some ⟨c.Fd,0,none⟩),.pointer (some ⟨bD,0,none⟩)]) (w':=w₁) rfl rfl vde (by simp[Yn,hFF];rfl)];rw[listed_nil (by simp[Yn];rfl)];simp only[goes_go];refine⟨fV c w₁,?_⟩)
      subst hFF;exact Y8 fun w₁ _=>⟨rfl,_,_,_,_,_,_,_,_,_,_,_,_,_,_,_,_,_,_,_,_,_,_,_,_,_,_,_,_,_,_,_,_,_,_,_,_,_,_,_,_,_,_,_,_,rfl⟩
    · simp only[V9 hl]
      have hl' : decide ((j : Int) + 1 < (n : Int))=false:=by simp;omega
      exact wk
theorem S3:(qf.funcs[(eB hv).fn]?).any (·.norace)=false:=by cases hv<;>kernel_rfl
theorem S1(h1:1≤n)(k:Fj c bF bM bL bD vm vl)(h:QN hv c bF bM bL bD n cs g):EC g∧mayWake qf g=true∧∃g',(∀w s r,w.heap[c.C1]?=some (.chan 0 #[] false s r false)→Xe qf true g w=.go g' { w with heap:=w.heap.setIfInBounds c.C1 (.chan 0 #[] true s r false) } #[⟨.obj c.C1,false,true⟩,⟨.obj c.C1,true,true⟩])∧g'.status=.running∧∀w,∃m,Walk qf c true (AN hv c bF bM bL bD n cs 0) m g' w:=by
 obtain⟨v0,v2,v4,v6,v7,v8,v12,v13,v14,v15,v16,v17,v18,v19,v20,v21,v22,v23,v24,v25,v26,v27,v28,v29,v30,v31,v32,v33,v34,v35,v36,v38,v39,v40,v41,v42,v43,v44,v45,v46,v47,v48,v49,v50,v51,v52,rfl⟩:=h;refine⟨⟨_,_,rfl⟩,by cases hv<;>simp[mayWake,G,Frame.at,Ms,Ki,DI,Ab,dK,pk,Yf,Yg],G ((eB hv).at ⟨#[v0,.int .i64 (n:Nat),v2,.pointer (some ⟨bM,0,none⟩),v4,.pointer (some ⟨bL,0,none⟩),v6,v7,v8,.pointer (some ⟨c.Fd,0,none⟩),.pointer (some ⟨bF,0,none⟩),.pointer (some ⟨bD,0,none⟩),v12,v13,v14,v15,v16,v17,v18,v19,v20,v21,v22,v23,v24,v25,v26,v27,v28,v29,v30,v31,v32,v33,v34,v35,v36,.chan (some c.C1),v38,v39,v40,v41,v42,v43,v44,v45,v46,v47,v48,v49,v50,v51,v52],[]⟩ [.inRegion (Ms hv) [],.code (NT hv)]) cs,fun w s r hc=>?_,rfl,fun w=>⟨0+60,?_⟩⟩
 ·cases hv
  all_goals
   simp only[Ms,Ki,DI,Ab,dK,pk,Yf,Yg,Ww];rw[stepG_close rfl rfl vde rfl rfl hc S3]
   rfl
 ·show Goes _ _ _ _ _ _ _ _
  cases hv
  all_goals
   simp only[Ms,NT,Ki,DI,Ab,dK,pk,Yf,Yg,Ww];have hl':0<n:=h1;exact wk
end
end Cs
end Go.Proofs.YtpcnpkhgjanamaaGreatDoor
