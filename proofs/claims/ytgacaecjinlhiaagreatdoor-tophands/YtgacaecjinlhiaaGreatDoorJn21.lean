import Derived.Stop.LaidErr
import Derived.Lay
import Derived.LaidMore
import Derived.Laws.AppendOwnNone
import Derived.Test.YtgacaecjinlhiaaGreatDoorRows
import Derived.Test.YtgacaecjinlhiaaGreatDoorJn20
namespace Go.Proofs.YtgacaecjinlhiaaGreatDoor
section
open Go.RowKit PK
theorem qL {n:String} {bs:List (List UInt8)} {r:List (String × DataW Unit)} {W:World} {g k:Nat} {t:TypeId} (h:laidMet Tryz.prog ((n,.agg (bs.map fun b=>.lit (.string b))) :: r) W) (hg0:Tryz.prog.globalNamed n=some g) (ht0:(Tryz.prog.globals[g]?).map (·.type)=some t) (hu:Tryz.prog.underlying t=some (.array k 9)) (hk:bs.length=k):W.rangeAt g 0 (bs.map fun b=>Value.string ⟨b.toArray⟩):=by
 obtain ⟨ps,⟨g,t,cs,fuel,p,q,hg,ht,hv,hd,_,_⟩,_,_⟩:=h
 obtain rfl:=Option.some.inj (hg0.symm.trans hg)
 obtain rfl:=Option.some.inj (ht0.symm.trans ht)
 obtain ⟨xs,m,_,ex,_,hl,hel⟩:=DataW.trod_array hu hd
 have c9:Tryz.prog.cellsOf 9=1:=by kernel_rfl
 intro i v hvi
 have hi:i<k:=by
  have:=(List.getElem?_eq_some_iff.1 hvi).1
  rw[List.length_map] at this
  omega
 have hE:=hel i hi
 rw[c9,Nat.mul_one,List.getElem?_eq_getElem (by omega)] at hE
 obtain ⟨z,e1,e2,_⟩:=DataW.trod_string Tryz.underlying9 hE
 have e3:(xs.map (·.1))=bs.map fun b=>.lit (.string b):=(DataW.agg.inj (Prod.mk.inj ex).1).symm
 have e4:(xs.map (·.1))[i]? = (bs.map fun b=>(DataW.lit (.string b):DataW Unit))[i]?:=by rw[e3]
 rw[List.getElem?_map,List.getElem?_map,List.getElem?_eq_getElem (by omega:i<xs.length),List.getElem?_eq_getElem (by omega:i<bs.length),e2] at e4
 rw[List.getElem?_map,List.getElem?_eq_getElem (by omega:i<bs.length)] at hvi
 simp only[Option.map_some,Option.some.injEq,DataW.lit.injEq,Lit.string.injEq] at e4 hvi
 rw[Nat.zero_add,World.var?_cell hg hv i,←hvi,←e4]
 have:cs.toList[i]? = some (.string z):=by
  have h0:((cs.toList.drop i).take 1)[0]? = some (.string z):=by rw[e1];rfl
  simpa using h0
 simpa using this
theorem Fi : Tryz.prog.globalNamed "blackroom/script.kinds" = some 0 := by kernel_rfl
theorem Jm : Tryz.prog.globalNamed "blackroom/script.tableaux" = some 1 := by kernel_rfl
theorem Dz:(Tryz.prog.globals[0]?).map (·.type)=some 157:=by kernel_rfl
theorem Gl:(Tryz.prog.globals[1]?).map (·.type)=some 158:=by kernel_rfl
theorem Ej : Tryz.prog.globalNamed "strconv.ErrRange" = some gv := by kernel_rfl
theorem FM:(Tryz.prog.globals[gv]?).map (·.type)=some 161:=by kernel_rfl
theorem yG {r : List (String × DataW Unit)} {W : World} (h : laidMet Tryz.prog (("blackroom/script.kinds", Rows.laid_blackroom_script_kinds) :: r) W) : W.rangeAt 0 0 nmA.toList := by
 have:=qL (bs:=[[],[109,111,118,101],[],[114,97,105,108],[99,111,108,117,109,110,115],[104,105,108,108],[114,111,116,111,114]]) h Fi Dz Tryz.underlying157 rfl
 rw[show nmA.toList=List.map (fun b:List UInt8=>Value.string ⟨b.toArray⟩) [[],[109,111,118,101],[],[114,97,105,108],[99,111,108,117,109,110,115],[104,105,108,108],[114,111,116,111,114]] by kernel_rfl]
 exact this
theorem BJ {r : List (String × DataW Unit)} {W : World} (h : laidMet Tryz.prog (("blackroom/script.tableaux", Rows.laid_blackroom_script_tableaux) :: r) W) : W.rangeAt 1 0 tbA.toList := by
 have:=qL (bs:=[[],[118,105,103,101,110,101,114,101],[98,101,97,117,102,111,114,116],[118,97,114,105,97,110,116],[97,117,116,111,107,101,121]]) h Jm Gl Tryz.underlying158 rfl
 rw[show tbA.toList=List.map (fun b:List UInt8=>Value.string ⟨b.toArray⟩) [[],[118,105,103,101,110,101,114,101],[98,101,97,117,102,111,114,116],[118,97,114,105,97,110,116],[97,117,116,111,107,101,121]] by kernel_rfl]
 exact this
theorem AZ {r : List (String × DataW Unit)} {W : World} (h : laidMet Tryz.prog (("strconv.ErrRange", Rows.laid_strconv_ErrRange) :: r) W) : fu W := by
 obtain ⟨ps,⟨g,t,cs,fuel,p,q,hg,ht,hv,hd,_,_⟩,_,_⟩:=h
 obtain rfl:=Option.some.inj (Ej.symm.trans hg)
 obtain rfl:=Option.some.inj (FM.symm.trans ht)
 obtain ⟨f1,u,v,e,_⟩:=iface_of_trod Tryz.underlying161 hd
 refine ⟨.iface u v,?_,.inr ⟨u,v,rfl⟩⟩
 have:=World.var?_cell Ej hv 0
 rw[Array.eq_one_of_toList e] at this
 simpa using this
end
section
open Go.RowKit PK Vg
set_option maxRecDepth 100000 in
set_option maxHeartbeats 2000000 in
theorem FV (b:Nat) (M:Om.Ma) (at':Nat→Nat) (w:World) (h:bn w b M at'):Calls Tryz.prog 60 #[.pointer (some ⟨b,0,none⟩)] w fun e w'=>e=.returned (.agg (ints 26 (Pm.up (Om.now M at'))))∧Below w.heap.size w w':=by
 have hz26:=cm c6
 have h0:=mO.new w
 have HR:=(show Hid (bn w b M at') from h)
 clear h
 go_enter Tryz.func60,Tryz.ntmps60
 go_wp2_with fail
 clear hz26
 go_loopw [5] (fun i V=>∃k:Nat,k≤26∧i=.int .i64 (k:Nat)∧mO w V fun c=>if c<k then ((Om.now M at' c:Nat):Int) else 0) (fun i _=>((26:Int)-intOf i).toNat)
 case atStart=>exact ⟨0,by omega,rfl,by simpa using h0⟩
 case round =>
  clear h0
  obtain ⟨k,hk,rfl,hg⟩:=hrel
  by_cases hlt:k<26
  ·have HLT:Hid (k<26):=hlt
   have HG:=(show Hid _ from hg)
   clear hg
   go_wp2_with fail
   refine (nO b M at' k HLT.out _ (HR.out.below HG.out.below)).mono ?_
   rintro e V ⟨rfl,hb⟩
   have hg:mO w V fun c=>if c<k then ((Om.now M at' c:Nat):Int) else 0:=⟨HG.out.r.below hb HG.out.r.lt,HG.out.o.below hb HG.out.o.lt,HG.out.below.trans (hb.mono HG.out.below.size)⟩
   have HNX:Hid (mO w (V.setCell ⟨w.heap.size+1,k,none⟩ (.int .i64 (Om.now M at' k:Nat))) fun c=>if c<k+1 then ((Om.now M at' c:Nat):Int) else 0):=by
    have:=hg.set k (Om.now M at' k:Nat)
    have e:upd (fun c=>if c<k then ((Om.now M at' c:Nat):Int) else 0) k (Om.now M at' k:Nat)=fun c=>if c<k+1 then ((Om.now M at' c:Nat):Int) else 0:=by
     funext i
     unfold upd
     by_cases e:i=k
     ·rw[if_pos e,if_pos (by omega),e]
     ·rw[if_neg e]
      show (if i<k then ((Om.now M at' i:Nat):Int) else 0)=_
      by_cases e2:i<k
      ·rw[if_pos e2,if_pos (by omega)]
      ·rw[if_neg e2,if_neg (by omega)]
    rw[e] at this
    exact this
   have hck:=hg.o.cell (aB (fun c=>if c<k then ((Om.now M at' c:Nat):Int) else 0) hlt)
   have hfk:=hg.o.frozen k
   clear hg hb HG
   generalize Om.now M at' k=A at *
   go_wp2
   go_roundw
   case rel=>exact ⟨k+1,HLT.out,by go_num,HNX.out⟩
   case measure=>have:=HLT.out;simp[intOf];omega
  ·obtain rfl:k=26:=by omega
   have hr:=hg.r
   have ho:af wr (w.heap.size+1) 25 (ints 26 (Pm.up (Om.now M at'))):=by
    have:=hg.o
    rw[bO (g:=Pm.up (Om.now M at')) fun i hi=>by rw[if_pos hi];rfl] at this
    exact this
   have hbe:=hg.below
   clear hg
   go_wp2_with (first | refine wpList_load_row rfl 25 _ rfl (w.heap.size+1) rfl 25 (ints 26 (Pm.up (Om.now M at'))) (0,0) _ ho Tryz.underlying25 rfl (by rw[ag];exact aj) ?_ | refine wpList_store_row rfl 25 _ _ rfl w.heap.size (ints 26 (Pm.up (Om.now M at'))) rfl rfl 25 _ hr (by rw[ag];exact aj) (by simp only[ag]) (aI _ _) ?_)
   exact bodyPost_ret (v:=.agg (ints 26 (Pm.up (Om.now M at')))) (ie Tryz.results60 _ _ _ _ _ _ _ rfl (hr.row _) Tryz.underlying25 rfl (by rw[ag];exact aj)) rfl ⟨rfl,Below.setRow hbe _ (Nat.le_refl _) _⟩
end
section
open Go.RowKit PK
def pair (f g:Nat→Int):Nat→Nat→Int:=fun k=>if k=0 then f else g
theorem FW (p q:Nat→Nat) (hp:Pm.aN p) (hq:Pm.aN q):Pm.bP (pair (Pm.up p) (Pm.up q)) 2=0:=by
 have h1:=Pm.dV (pair (Pm.up p) (Pm.up q)) 0 rfl
 have h2:Pm.bP (pair (Pm.up p) (Pm.up q)) 1=0:=h1.trans (Pm.lq p hp)
 exact (Pm.dV _ 1 h2).trans (Pm.lq q hq)
set_option maxHeartbeats 2000000 in
theorem Bt (p q:Nat→Nat) (i:Nat) (hi:i<26) (hp:Pm.aN p) (bp bq:Nat) (w:World) (hrp:af w bp 25 (ints 26 (Pm.up p))) (hrq:af w bq 25 (ints 26 (Pm.up q))) :
  Calls Tryz.prog 151 #[.int .i64 (i:Int),.pointer (some ⟨bq,0,none⟩),.pointer (some ⟨bp,0,none⟩)] w fun e w'=>e=.returned (.tuple #[.int .i64 (i:Int),.int .i64 (q (p i):Nat)])∧Below w.heap.size w w':=by
 have hpi:=hp.lt i hi
 have hc1:=hrp.cell (aB (Pm.up p) hi)
 have hc2:=hrq.cell (aB (Pm.up q) hpi)
 simp only[Pm.up] at hc1 hc2
 clear hrp hrq
 generalize p i=n at *
 go_enter Tryz.func151,Tryz.ntmps151
 go_wp2
 go_quiet (fail)
 go_wp2
 go_ret2
 exact ⟨rfl,rfl,rfl,rfl,Nat.le_refl _,fun _ _=>rfl⟩
set_option maxHeartbeats 2000000 in
theorem then_ok (p q:Nat→Nat) (hp:Pm.aN p) (hq:Pm.aN q) (w:World) :
  Calls Tryz.prog 124 #[.agg (ints 26 (Pm.up p)),.agg (ints 26 (Pm.up q))] w fun e w'=>e=.returned (.tuple #[.agg (ints 26 (Pm.up (fun i=>q (p i)))),.int .i64 0])∧Below w.heap.size w w':=by
 have H0:Hid (Pm.bP (pair (Pm.up p) (Pm.up q)) 2=0):=FW p q hp hq
 have hmf:∀(fn:Fn) (first cap:Array Value) (w:World),(Instr.makeFunc fn first cap).run Tryz.prog w=.ok (.func fn first cap) w:=fun _ _ _ _=>rfl
 go_enter Tryz.func124,Tryz.ntmps124
 go_wp2_with (first
  | refine wpList_load_row rfl 25 _ rfl w.heap.size rfl 25 (ints 26 (Pm.up p)) (0,0) _ (((af.new w _ _).alloc _).alloc _) Tryz.underlying25 rfl (by rw[ag];exact aj) ?_
  | refine wpList_load_row rfl 25 _ rfl (w.heap.size+1) rfl 25 (ints 26 (Pm.up q)) (0,0) _ (by rw[←World.size_alloc w];exact (af.new _ _ _).alloc _) Tryz.underlying25 rfl (by rw[ag];exact aj) ?_
  | refine qU rfl 81 25 _ _ rfl 26 (Pm.up p) (Pm.up q) rfl rfl (by decide) Tryz.underlying81 rU (by decide) ?_)
 rw[kP]
 refine (iU (pair (Pm.up p) (Pm.up q)) 2 (Nat.le_refl _) _ _ (by simp) (Ac (af.newAt (by simp)))).mono ?_
 rintro e W1 ⟨rfl,hb0⟩
 obtain ⟨r1,r2,r3,hb1,hs1⟩:=Jw hb0
 clear hb0
 rw[H0.out]
 go_wp2_with fail
 refine (kI 151 #[.pointer (some ⟨w.heap.size+1,0,none⟩),.pointer (some ⟨w.heap.size,0,none⟩)] (fun i=>i) (Pm.up fun i=>q (p i)) (fun _ h=>h) _ (by intro args W;go_simp) (fun i hi W hW=>Bt p q i hi hp _ _ W (r1.below hW (by omega)) (r2.below hW (by omega)))).mono ?_
 rintro e W2 ⟨rfl,hb2⟩
 rw[zl]
 have hs2:=hb2.size
 have hrow:=r3.below hb2 (by omega)
 go_wp2_with (refine wpList_store_row rfl 25 _ _ rfl (w.heap.size+1+1) (ints 26 (Pm.up (fun i=>q (p i)))) rfl rfl 25 _ hrow (by rw[ag];exact aj) (by simp only[ag]) (aI _ _) ?_)
 exact bodyPost_ret (v:=.tuple #[.agg (ints 26 (Pm.up (fun i=>q (p i)))),.int .i64 0]) (aG rfl _ _ (w.heap.size+1+1) 25 _ (0,0) _ _ rfl rfl (hrow.row _) Tryz.underlying25 rfl (by rw[ag];exact aj)) rfl ⟨rfl,Below.setRow (hb1.trans (hb2.mono (by omega))) _ (by omega) _⟩
end
section
open Go.RowKit PK
section
variable {P:Program} {md:Region.Mode} {ops:Array Oper} {Q:Exit→Act→World→Prop} {S:World→Prop}
theorem tj {fuel:Nat} {listed:Array Bool} {a:Act} {w:World} (i:Nat) (o:Oper) (hr:Region.ready md ops listed=[i]) (ho:ops[i]? = some o) (hw:Region.wanted o (yielded ops a.tmps)=true)
  (ty:TypeId) (x y:Operand) (hop:o.op=.store ty x y) (g:Nat) (cells:Array Value) (hx:a.eval x=.pointer (some ⟨g,0,none⟩)) (hy:a.eval y=.agg cells) (t:TypeId) (old:Array Value) (hg:af w g t old)
  (hi:(P.info? ty).map (·.size)=some cells.size) (hs:old.size=cells.size) (h1:cells.all (·.oneCell')=true) (hdst:o.dst=none)
  (hS:S (w.setRow g cells)) (h:S (w.setRow g cells)→wpAnyH P md ops Q S fuel (listed.setIfInBounds i true) a (w.setRow g cells)):wpAnyH P md ops Q S (fuel+1) listed a w:=by
 refine wpAnyH_ready hr (by simp) (AllReadyH.cons ho (fun K hK=>?_) AllReadyH.nil)
 rw[if_pos hw]
 refine wp_store_row ty x y hop g cells hx hy t old hg hi hs h1 ?_
 have hp:a.put o.dst undef=a:=by rw[hdst];rfl
 rw[hp]
 exact hK.out _ _ hS h
end
end
section
open Go.RowKit PK Vg
def gp (P:Nat→Nat→Nat) (k:Nat):Nat→Int:=fun i=>if i<k*26 then flat P i else 0
theorem vh (P:Nat→Nat→Nat) (n:Nat):ints n (gp P 0)=ints n fun _=>0:=bO fun i _=>by
 unfold gp
 rw[if_neg (by omega)]
theorem yC (P:Nat→Nat→Nat) (n:Nat) {N:Nat} (hN:N=n*26):ints N (gp P n)=ints N (flat P):=bO fun i hi=>by
 unfold gp
 rw[if_pos (by omega)]
theorem Ef (P:Nat→Nat→Nat) {n k N:Nat} (hN:N=n*26) (hk:k<n):cx (ints N (gp P k)) (k*26) (ints 26 (Pm.up (P k))).toList=ints N (gp P (k+1)):=by
 have hl:(ints 26 (Pm.up (P k))).toList.length=26:=by rw[Array.length_toList,ag]
 apply Array.ext_getElem?
 intro i
 rw[cY _ _ _ _ (by rw[hl,ag];omega),hl]
 by_cases h:k*26≤i∧i<k*26+26
 ·rw[if_pos h,Array.getElem?_toList,aB _ (by omega),aB _ (by omega)]
  unfold gp flat Pm.up
  rw[if_pos (by omega),show i / 26=k by omega,show i % 26=i-k*26 by omega]
 ·rw[if_neg h]
  by_cases h2:i<N
  ·rw[aB _ h2,aB _ h2]
   unfold gp
   by_cases h3:i<k*26
   ·rw[if_pos h3,if_pos (by omega)]
   ·rw[if_neg h3,if_neg (by omega)]
  ·rw[Array.getElem?_eq_none (by rw[ag];omega),Array.getElem?_eq_none (by rw[ag];omega)]
def yL (M:Om.Ma) (k:Nat):Nat→Nat:=Om.now M (Om.steps M M.st (k+1))
section
variable {w W W':World} {a b c:Value} {rf pl:Nat→Int}
end
section
variable {w W W':World} {a b c:Value} {rf pl:Nat→Int} {M:Om.Ma} {q q6 k:Nat}
end
section
variable {w W W':World} {a b c:Value} {rf pl:Nat→Int} {M:Om.Ma} {q6 q8 k:Nat}
end
end
namespace Pm
def iter (p:Nat→Nat):Nat→Nat→Nat
 | 0,i=>i
 | k+1,i=>p (iter p k i)
def len (p:Nat→Nat) (i:Nat):Nat:=((List.range 27).find? fun n=>decide (0<n) && iter p n i==i).getD 0
def cyc (p:Nat→Nat) (i:Nat):List Nat:=(List.range (len p i)).map fun k=>iter p k i
def met (p:Nat→Nat) (k x:Nat):Bool:=(List.range k).any fun i=>(cyc p i).contains x
end Pm
section
open Go.RowKit PK
def Bm (l:List Nat):List Value:=l.map fun (i:Nat)=>Value.int .i64 (i:Int)
end
section
open Go.RowKit PK
def cnt (ls:List (List Nat)) (n:Nat):Nat:=(ls.filter fun l=>l.length==n).length
end
section
open Go.RowKit PK Vg
theorem jQ (W:World) (q i:Nat) (v:Value):W.grownBy (W.setCell ⟨q,i,none⟩ v) (some q):=by
 have:=(Below.refl 0 W).setCell (p:=⟨q,i,none⟩) (Nat.zero_le _) v
 exact ⟨this.os,this.tape,this.output,this.size,fun k _ hne=>heap_setCell_other W ⟨q,i,none⟩ k v (fun e=>hne (by rw[e]))⟩
theorem nU {W V U:World} {r:Option Nat} (h1:W.grownBy V r) (h2:V.grownBy U r):W.grownBy U r :=
 ⟨h2.os.trans h1.os,h2.tape.trans h1.tape,h2.output.trans h1.output,Nat.le_trans h1.size h2.size,fun k hk hne=>(h2.block k (Nat.lt_of_lt_of_le hk h1.size) hne).trans (h1.block k hk hne)⟩
section
variable {P:Program}
theorem uV (w:World) (t e:TypeId) (n:Nat) (hn:n*2≤2 ^ 24) (h0:0<n) (hu:P.underlying t=some (.slice e)) (z c:Array Value) (hzs:z.size=n) (hc:c.size=n) (hz:(P.info? e).map (fun i=>(i.zero,i.size))=some (some (.agg z),n)) :
  (Instr.buildSlice t 1 #[(0,.agg c)]).run P w=.ok (.slice (some ⟨w.heap.size,0,none⟩) 1 1) (w.alloc (.cells c e)):=by
 obtain ⟨hz1,hz2⟩:=zero_of_info hz
 cases hq:P.info? e with
 | none=>simp[hq] at hz
 | some i =>
  have hs:i.size=n:=by simpa [hq] using hz2
  have hsz:∀W,(sizeOf e).run P W=.ok n W:=fun W=>by simp[sizeOf,typeInfo,hq,hs]
  have hcc:(Value.agg c).cells=c:=rfl
  have hfill:Instr.fill (fun i=>some (i*n,n)) (tab n fun x=>z[x % n]!) [(0,.agg c)]=some c:=by
   rw[Instr.fill]
   simp only[hcc,hc,bG]
   rw[if_neg (by simp)]
   have hx:=gQ n (0*n) c.toList 0 (fun x=>z[x % n]!)
   rw[←Array.foldl_toList,Array.toList_zipIdx,hx]
   show some _=some c
   congr 1
   apply Array.ext_getElem?
   intro i
   by_cases hi:i<n
   ·rw[aR _ hi,if_pos (by simp[hc];omega)]
    simp[List.getD_eq_getElem?_getD,hc,hi]
   ·rw[Array.getElem?_eq_none (by rw[bG];omega),Array.getElem?_eq_none (by omega)]
  have h3:¬(n > 2 ^ 24):=by omega
  have h4:¬(n=0):=by omega
  have hzc:(Value.agg z).cells=z:=rfl
  simp only[Instr.buildSlice,Sem.run_bind,run_underlying hu,Result.andThen_ok,hsz,Nat.one_mul,h3,h4,if_false,hz1,Sem.run_pure,hzc,hzs,jN,hfill]
  simp[newRow]
theorem qd {ops:Array Oper} {rest:List Oper} {op:Oper} {a:Act} {w:World} {Q:Exit→Act→World→Prop} (hgd:op.guard=none) (t e:TypeId) (x:Operand) (ho:op.op=.buildSlice t 1 #[(0,x)])
  (n:Nat) (z c:Array Value) (hx:a.eval x=.agg c) (hn:n*2≤2 ^ 24) (h0:0<n) (hu:P.underlying t=some (.slice e)) (hzs:z.size=n) (hc:c.size=n) (hz:(P.info? e).map (fun i=>(i.zero,i.size))=some (some (.agg z),n))
  (h:wpList P ops Q rest (a.put op.dst (.slice (some ⟨w.heap.size,0,none⟩) 1 1)) (w.alloc (.cells c e))):wpList P ops Q (op :: rest) a w :=
 wpList_plain hgd fun _ hK=>by
  unfold Oper.wp execOp
  have hm:(#[(0,x)]:Array (Nat × Operand)).map (fun (i,x)=>(i,a.eval x))=#[(0,.agg c)]:=by simp[hx]
  simp only[ho,Sem.run_bind,hm,uV w t e n hn h0 hu z c hzs hc hz,Result.andThen_ok]
  exact hK _ _ h
end
end
section
open Go.RowKit PK Vg
section
variable {w W W':World} {a b c v7 v8:Value} {M:Om.Ma} {ks:Nat→Int} {d k:Nat} {R:Nat→Value}
end
end
section
open Go.RowKit PK Vg
theorem xI:(Tryz.prog.info? 27).map (·.zero)=some (some (.agg (mac (.slice none 0 0) (.slice none 0 0) (.slice none 0 0) (fun _=>0) (fun _=>0)))):=by kernel_rfl
theorem wF {a b c:Value} {rf pl:Nat→Int} (ha:a.oneCell'=true) (hb:b.oneCell'=true) (hc:c.oneCell'=true):(mac a b c rf pl).all (·.oneCell')=true:=by
 unfold mac
 rw[Array.all_append,Array.all_append,aI,aI]
 simp[ha,hb,hc]
section
variable {w W W':World} {a b c:Value} {rf pl pl2:Nat→Int} {qf q:Nat}
end
theorem La {g:Gm} (h1:1≤g.n∧g.n≤4) (h2:whE g g.n=0) (h3:g.rl=g.n∧ins g.rl g.ri=true) (h4:g.sl=g.n∧ins g.sl g.st=true) (h5:Pm.wrong g.rf=0∧gK true g.rf=true) (h6:Pm.wrong g.pl=0) (h7:gK false g.pl=true):gE g=0:=by
 unfold gE
 rw[if_neg (by omega),if_neg (fun e=>e h2),if_neg (fun e=>e h3.1),if_neg (by rw[h3.2];decide),if_neg (fun e=>e h4.1),if_neg (by rw[h4.2];decide),if_neg (fun e=>e h5.1),if_neg (by rw[h5.2];decide),if_neg (fun e=>e h6),if_neg (by rw[h7];decide)]
def bare (g:Gm):Gm:={ g with pl:=Pm.up fun i=>i }
theorem wq (g:Gm):∀n,whE (bare g) n=whE g n
 | 0=>rfl
 | n+1=>by
  show (if whE (bare g) n≠0 then whE (bare g) n else if Pm.wrong (g.wi n)≠0 then Pm.wrong (g.wi n) else if ins (g.nl n) (g.no n)=true then 0 else 3)=(if whE g n≠0 then whE g n else if Pm.wrong (g.wi n)≠0 then Pm.wrong (g.wi n) else if ins (g.nl n) (g.no n)=true then 0 else 3)
  rw[wq g n]
theorem Gf {g:Gm} (h:gE g=0):gE (bare g)=0:=by
 obtain ⟨h1,h2,h3,h4,h5,_,_⟩:=zD h
 refine La h1 (by rw[wq];exact h2) h3 h4 h5 (Pm.lq _ Pm.aN.id) ((qG _ _).2 fun i hi=>⟨rfl,fun e=>by cases e⟩)
end
section
open Go.RowKit PK Vg
def sl3 (k:Nat) (V:Nat→Value):Array Value:=tab 3 fun i=>if i<k then V i else .slice none 0 0
section
variable {w W W':World} {a b c:Value} {rf pl:Nat→Int} {P:Nat→Nat→Nat} {q4 q6 k:Nat} {V:Nat→Value}
end
end
section
open Go.RowKit PK Vg
def iD (m N i:Nat):Nat:=N / 26 ^ (m-1-i) % 26
theorem IW (m N i:Nat):iD m N i<26:=Nat.mod_lt _ (by decide)
def oH (m N k:Nat):Nat→Int:=fun i=>if k≤i then ((iD m N i:Nat):Int) else 0
theorem ym (m N:Nat):(ints m fun _=>0)=ints m (oH m N m):=bO fun i hi=>by unfold oH;rw[if_neg (by omega)]
theorem AM (m N k:Nat):ints m (upd (oH m N (k+1)) k ((iD m N k:Nat):Int))=ints m (oH m N k):=bO fun i hi=>by
 unfold upd
 by_cases e:i=k
 ·rw[if_pos e]
  unfold oH
  rw[if_pos (by omega),e]
 ·rw[if_neg e]
  unfold oH
  by_cases e2:k≤i
  ·rw[if_pos e2,if_pos (by omega)]
  ·rw[if_neg e2,if_neg (by omega)]
theorem EF (m N:Nat):ints m (oH m N 0)=ints m fun i=>((iD m N i:Nat):Int):=bO fun i hi=>by unfold oH;rw[if_pos (Nat.zero_le _)]
theorem xC (z:Value) (n:Nat):madeCells #[z] n=tab n fun _=>z:=by
 unfold madeCells tab
 apply Array.ext
 ·simp
 ·intro i h1 h2
  simp[Nat.mod_one]
theorem kD:(Tryz.prog.info? 3).map (fun i=>(i.zero,i.size,i.bytes))=some (some (.int .i64 0),1,8):=by kernel_rfl
theorem eo {P:Program} {e:TypeId} {z:Value} {s b:Nat} (h:(P.info? e).map (fun i=>(i.zero,i.size,i.bytes))=some (some z,s,b)):∃i,P.info? e=some i∧i.zero=some z∧i.size=s∧i.bytes=b:=by
 obtain ⟨i,hi,hzz⟩:=Option.map_eq_some_iff.1 h
 simp only[Prod.mk.injEq] at hzz
 exact ⟨i,hi,hzz.1,hzz.2.1,hzz.2.2⟩
theorem D9 {m:Nat} (hm:m≤4):26 ^ m≤456976:=by
 rcases (by omega:m=0∨m=1∨m=2∨m=3∨m=4) with rfl | rfl | rfl | rfl | rfl <;> decide
set_option maxRecDepth 100000 in
set_option maxHeartbeats 2000000 in
theorem Cz (m N:Nat) (hm:m≤4) (hN:N<26 ^ m) (w:World):Calls Tryz.prog 56 #[.int .i64 (m:Nat),.int .i64 (N:Nat)] w fun e w'=>∃g,e=.returned (.slice (some ⟨g,0,none⟩) m m)∧af w' g 3 (ints m fun i=>((iD m N i:Nat):Int))∧w.heap.size≤g∧Below w.heap.size w w':=by
 have hmk:=run_make_row' (P:=Tryz.prog) 23 3 (.int .i64 0) 8 Tryz.underlying23 kD rfl .i64 .i64 m (by omega) (by omega)
 rw[xC] at hmk
 have h2:af (w.alloc (.cells (tab m fun _=>.int .i64 0) 3)) w.heap.size 3 (ints m fun _=>0):=af.new w _ _
 rw[ym m N] at h2
 have hb2:=(Below.refl w.heap.size w).alloc (Nat.le_refl _) (.cells (tab m fun _=>.int .i64 0) 3)
 have hNb:N<456976:=Nat.lt_of_lt_of_le hN (D9 hm)
 clear hN
 go_enter Tryz.func56,Tryz.ntmps56
 go_upto_region 2 with fail
 generalize w.alloc (.cells (tab m fun _=>.int .i64 0) 3)=W2 at *
 clear hmk
 go_wp2_with fail
 go_loopw [1,6] (fun n x W=>∃k D:Nat,k≤m∧D≤N∧n=.int .i64 (D:Nat)∧x=.int .i64 ((k:Int)-1)∧Hid (D=N / 26 ^ (m-k))∧af W w.heap.size 3 (ints m (oH m N k))∧Below w.heap.size w W) (fun _ x _=>(intOf x+1).toNat)
 case atStart=>exact ⟨m,N,Nat.le_refl _,Nat.le_refl _,rfl,rfl,by rw[Hid,Nat.sub_self,Nat.pow_zero,Nat.div_one],h2,hb2⟩
 case round =>
  clear h2 hb2
  obtain ⟨k,D,hk,hD,rfl,rfl,HD,hro,hbe⟩:=hrel
  cases k with
  | zero =>
   rw[EF] at hro
   have HRO:=(show Hid _ from hro)
   have HBE:=(show Hid _ from hbe)
   clear hro hbe HD
   go_wp2
   go_ret
   exact ⟨w.heap.size,by first | rfl | trivial,HRO.out,Nat.le_refl _,HBE.out⟩
  | succ c =>
   have hcs:(((c+1:Nat):Int))-1=(c:Int):=by omega
   rw[hcs]
   have HCM:Hid (c<m):=hk
   have hcm:(c:Int)<(m:Int):=by omega
   have hcell:=hro.cell (aB (oH m N (c+1)) (i:=c) hk)
   have hfz:=hro.frozen c
   have hrem:((D:Int)).tmod 26=((D % 26:Nat):Int):=by rw[Int.tmod_eq_emod_of_nonneg (by omega)];push_cast;rfl
   have hrem2:((D:Int)) % 26=((D % 26:Nat):Int):=by push_cast;rfl
   have hquo:((D:Int)).tdiv 26=((D / 26:Nat):Int):=by rw[Int.tdiv_eq_ediv_of_nonneg (by omega)];push_cast;rfl
   have hquo2:((D:Int)) / 26=((D / 26:Nat):Int):=by push_cast;rfl
   have HDG:Hid (D % 26=iD m N c):=by rw[Hid,HD.out];unfold iD;rw[show m-(c+1)=m-1-c by omega]
   have HDN:Hid (D / 26=N / 26 ^ (m-c)):=by rw[Hid,HD.out,Nat.div_div_eq_div_mul,←Nat.pow_succ,Nat.succ_eq_add_one,show m-(c+1)+1=m-c by omega]
   have hdl:D / 26≤D:=Nat.div_le_self _ _
   have hml:=Nat.mod_lt D (show 0<26 by decide)
   have HST:=(show Hid _ from AM m N c)
   have HN:Hid (∀x,x=D % 26→af (wr.setCell ⟨w.heap.size,c,none⟩ (.int .i64 ((x:Nat):Int))) w.heap.size 3 (ints m (oH m N c))∧Below w.heap.size w (wr.setCell ⟨w.heap.size,c,none⟩ (.int .i64 ((x:Nat):Int)))):=fun x hx=>by
    refine ⟨?_,hbe.setCell (p:=⟨w.heap.size,c,none⟩) (Nat.le_refl _) _⟩
    have h1:=hro.set c (.int .i64 ((x:Nat):Int))
    rw[ints_set,hx,HDG.out,HST.out] at h1
    rw[hx,HDG.out]
    exact h1
   have HN2:=(show Hid _ from HN.out _ rfl)
   generalize oH m N (c+1) c=oc at *
   generalize D % 26=x at *
   generalize D / 26=D2 at *
   clear hro hbe HD HN HST HDG hcs hk
   go_wp2
   go_roundw
   case rel=>exact ⟨c,D2,by have:=HCM.out;omega,by omega,by first | rfl | go_num,by go_num,HDN.out,HN2.out.1,HN2.out.2⟩
   case measure=>simp[intOf]
theorem CL {w:World} {B n:Nat} {v:Value} {f:Nat→Int} (h:w.ownsRow B 3 1 v n (ints n f).toList):aq w v n f:=by
 have hx:=h
 rcases h.2 with ⟨rfl,h0⟩ | ⟨g,cap,cur,rfl,hbg,hg,hnc,hcm,hcs,htake⟩
 ·exact ⟨none,0,by rw[h0],by rw[h0];decide,fun c hc=>by omega⟩
 ·refine ⟨some ⟨g,0,none⟩,cap,rfl,by omega,fun c hc=>⟨g,0,rfl,?_⟩⟩
  have h1:(ints n f).toList[c]? = some (.int .i64 (f c)):=by
   have ex:(ints n f).toList[c]? = (ints n f)[c]?:=Array.getElem?_toList
   rw[ex,aB f hc]
  have:=World.ownsRow.cells (g:=g) hx rfl c _ h1
  have e:((⟨g,0,none⟩:Addr).add c)=⟨g,0+c,none⟩:=by unfold Addr.add;by_cases e0:c=0 <;> simp[e0]
  rw[e] at this
  exact this
theorem o7 {w:World} {g B n:Nat} {T:TypeId} {c:Array Value} (h:af w g T c) (hB:B≤g) (hn:c.size=n) (hm:n≤maxLen):w.ownsRow B T 1 (.slice (some ⟨g,0,none⟩) n n) n c.toList :=
 ⟨by simp[hn],.inr ⟨g,n,c,rfl,hB,h,Nat.le_refl _,hm,by simp[hn],by rw[Nat.mul_one,←hn,←Array.length_toList,List.take_length]⟩⟩
theorem l9 (b o j:Nat):((⟨b,o,none⟩:Addr).add j)=⟨b,o+j,none⟩:=by unfold Addr.add;by_cases e0:j=0 <;> simp[e0]
set_option maxRecDepth 100000 in
set_option maxHeartbeats 2000000 in
theorem qa (v:Value) (n:Nat) (f:Nat→Int) (hn:n*8≤140737488355328) (w:World) (hv:aq w v n f):Calls Tryz.prog 14 #[v] w fun e w'=>∃v',e=.returned v'∧aq w' v' n f∧(∀b o cp,v'=.slice (some ⟨b,o,none⟩) n cp→w.heap.size≤b)∧Below w.heap.size w w':=by
 obtain ⟨i0,hi0,hz0,hz1,hz2⟩:=eo kD
 obtain ⟨a,cap,rfl,hmx,hc⟩:=hv
 unfold maxLen at hmx
 cases a with
 | none =>
  have h0:n=0:=by
   rcases Nat.eq_zero_or_pos n with h | h
   ·exact h
   ·obtain ⟨b,o,e,_⟩:=hc 0 h
    cases e
  subst h0
  clear hc
  have heq:∀W,(binOp .eql 23 (.slice none 0 cap) (.slice none 0 0)).run Tryz.prog W=.ok (.bool true) W:=fun _=>rfl
  go_enter Tryz.func14,Tryz.ntmps14
  go_wp2
  go_ret
  exact ⟨_,rfl,⟨none,0,rfl,by decide,fun c hc=>by omega⟩,fun b o cp e=>(by cases e),Below.refl _ _⟩
 | some ad =>
  have hnews:∀W,Below w.heap.size w W→∀j u,(ints n f).toList[j]? = some u→W.cell? (ad.add j)=some u:=fun W hb j u hu=>by
   have ex:(ints n f).toList[j]? = (ints n f)[j]?:=Array.getElem?_toList
   rw[ex] at hu
   have hj:j<n:=by have:=(Array.getElem?_eq_some_iff.1 hu).1;rwa [ag] at this
   rw[aB f hj] at hu
   obtain ⟨b,o,e,hcell⟩:=hc j hj
   cases e
   rw[l9,←hu]
   exact (hb.cell (p:=⟨b,o+j,none⟩) (aA hcell)).trans hcell
  have HNW:=(show Hid _ from hnews)
  have hone:∀u ∈ (ints n f).toList,u.oneCell'=true:=fun u hu=>by
   have:=aI n f
   rw[Array.all_eq_true_iff_forall_mem] at this
   exact this u (by simpa using hu)
  have HON:=(show Hid _ from hone)
  have how:(w.alloc (.cells #[] 3)).ownsRow w.heap.size 3 1 (.slice (some ⟨w.heap.size,0,none⟩) 0 0) 0 []:=o7 (af.new w 3 #[]) (Nat.le_refl _) rfl (by decide)
  have hb1:=(Below.refl w.heap.size w).alloc (Nat.le_refl _) (.cells #[] 3)
  have heq:∀W,(binOp .eql 23 (.slice (some ad) n cap) (.slice none 0 0)).run Tryz.prog W=.ok (.bool false) W:=fun _=>rfl
  clear hc hnews hone
  go_enter Tryz.func14,Tryz.ntmps14
  go_wp2_with (first | (at_builtin;refine wpList_append_own _ rfl _ _ 23 rfl w.heap.size 3 i0 (.int .i64 0) 1 8 Tryz.underlying23 hi0 hz0 hz1 hz2 rfl (by decide) _ _ _ rfl how ad n cap (ints n f).toList rfl (by rw[Array.length_toList,ag,Nat.mul_one]) (HNW.out _ hb1) HON.out (by unfold maxLen;omega) (by omega) (by simp) ?_;intro v' w1 hown' hgrow _))
  go_ret
  rw[Nat.zero_add,List.nil_append] at hown'
  refine ⟨v',rfl,CL hown',fun b o cp e=>?_,hb1.grown hgrow (by simp) (fun p hp=>(World.ownsRow.lt how p hp).1)⟩
  rcases hown'.2 with ⟨e2,_⟩ | ⟨g,_,_,e2,hbg,_⟩
  ·rw[e2] at e;cases e
  ·rw[e2] at e;cases e;exact hbg
end
section
open Go.RowKit PK Vg
theorem Da (a b c c2:Value) (rf pl:Nat→Int):(mac a b c rf pl).setIfInBounds 2 c2=mac a b c2 rf pl:=by
 unfold mac
 rw[Array.append_assoc,Array.append_assoc,Array.setIfInBounds_append_left (by simp)]
 rfl
theorem D3 (a b c c2:Value) (rf pl:Nat→Int):(mac a b c rf pl).setIfInBounds 1 c2=mac a c2 c rf pl:=by
 unfold mac
 rw[Array.append_assoc,Array.append_assoc,Array.setIfInBounds_append_left (by simp)]
 rfl
theorem C3 (a b c c2:Value) (rf pl:Nat→Int):(mac a b c rf pl).setIfInBounds 0 c2=mac c2 b c rf pl:=by
 unfold mac
 rw[Array.append_assoc,Array.append_assoc,Array.setIfInBounds_append_left (by simp)]
 rfl
def whC (wi:Nat→Nat→Int) (R:Nat→Value) (i:Nat):Value:=if i % 27<26 then .int .i64 (wi (i / 27) (i % 27)) else R (i / 27)
theorem zc (wi:Nat→Nat→Int) (R:Nat→Value) (r j:Nat) (hj:j<27):(whl (wi r) (R r))[j]? = some (whC wi R (r*27+j)):=by
 unfold whC
 rw[show (r*27+j) / 27=r by omega,show (r*27+j) % 27=j by omega]
 by_cases h:j<26
 ·rw[if_pos h,ff _ _ h]
 ·rw[if_neg h,show j=26 by omega,gN]
theorem Gn {wi:Nat→Nat→Int} {R:Nat→Value} {n:Nat} (h:∀r,r<n→(R r).oneCell'=true):∀u ∈ (tab (n*27) (whC wi R)).toList,u.oneCell'=true:=fun u hu=>by
 simp[tab] at hu
 obtain ⟨i,hi,rfl⟩:=hu
 unfold whC
 by_cases h1:i % 27<26
 ·rw[if_pos h1];rfl
 ·rw[if_neg h1];exact h _ (by omega)
theorem tc:(Tryz.prog.info? 104).map (fun i=>(i.zero,i.size,i.bytes))=some (some (.agg (whl (fun _=>0) (.slice none 0 0))),27,232):=by kernel_rfl
theorem ld:(Tryz.prog.info? 104).map (·.size)=some 27:=by kernel_rfl
theorem tF:(Tryz.prog.info? 104).map (·.zero)=some (some (.agg (whl (fun _=>0) (.slice none 0 0)))):=by kernel_rfl
set_option maxRecDepth 100000 in
set_option maxHeartbeats 2000000 in
theorem Ec (b o n cap:Nat) (wi:Nat→Nat→Int) (R:Nat→Value) (hn:n≤4) (hR:∀r,r<n→(R r).oneCell'=true) (w:World) (hc:∀r,r<n→w.rangeAt b (o+r*27) (whl (wi r) (R r)).toList) :
  Calls Tryz.prog 92 #[.slice (some ⟨b,o,none⟩) n cap] w fun e w'=>∃g cp cur,e=.returned (.slice (some ⟨g,0,none⟩) n cp)∧af w' g 104 cur∧(∀i,i<n*27→cur[i]? = some (whC wi R i))∧w.heap.size≤g∧Below w.heap.size w w':=by
 obtain ⟨i0,hi0,hz0,hz1,hz2⟩:=eo tc
 have hlen:(tab (n*27) (whC wi R)).toList.length=n*27:=by rw[Array.length_toList,bG]
 have hget:∀j,j<n*27→(tab (n*27) (whC wi R)).toList[j]? = some (whC wi R j):=fun j hj=>by
  have ex:(tab (n*27) (whC wi R)).toList[j]? = (tab (n*27) (whC wi R))[j]?:=Array.getElem?_toList
  rw[ex,aR _ hj]
 have hnews:∀W,Below w.heap.size w W→∀j u,(tab (n*27) (whC wi R)).toList[j]? = some u→W.cell? ((⟨b,o,none⟩:Addr).add j)=some u:=fun W hb j u hu=>by
  have hj:j<n*27:=by have:=(List.getElem?_eq_some_iff.1 hu).1;rwa [hlen] at this
  rw[hget j hj] at hu
  have h1:=hc (j / 27) (by omega) (j % 27) (whC wi R j) (by
   have ex:(whl (wi (j / 27)) (R (j / 27))).toList[j % 27]? = (whl (wi (j / 27)) (R (j / 27)))[j % 27]?:=Array.getElem?_toList
   rw[ex,zc _ _ _ _ (Nat.mod_lt _ (by decide)),show j / 27*27+j % 27=j by omega])
  rw[show o+j / 27*27+j % 27=o+j by omega] at h1
  rw[l9,←hu]
  exact (hb.cell (p:=⟨b,o+j,none⟩) (aA h1)).trans h1
 have HNW:=(show Hid _ from hnews)
 have HON:=(show Hid _ from Gn (wi:=wi) hR)
 have HGT:=(show Hid _ from hget)
 have how:(w.alloc (.cells #[] 104)).ownsRow w.heap.size 104 27 (.slice (some ⟨w.heap.size,0,none⟩) 0 0) 0 []:=⟨by simp,.inr ⟨w.heap.size,0,#[],rfl,Nat.le_refl _,af.new w 104 #[],Nat.le_refl _,by decide,by simp,by simp⟩⟩
 have hb1:=(Below.refl w.heap.size w).alloc (Nat.le_refl _) (.cells #[] 104)
 have heq:∀W,(binOp .eql 22 (.slice (some ⟨b,o,none⟩) n cap) (.slice none 0 0)).run Tryz.prog W=.ok (.bool false) W:=fun _=>rfl
 generalize (tab (n*27) (whC wi R)).toList=L at *
 clear hc hnews hget hR
 go_enter Tryz.func92,Tryz.ntmps92
 go_wp2_with (first | (at_builtin;refine wpList_append_own _ rfl _ _ 22 rfl w.heap.size 104 i0 (.agg (whl (fun _=>0) (.slice none 0 0))) 27 232 Tryz.underlying22 hi0 hz0 hz1 hz2 (aH _ _) (by decide) _ _ _ rfl how ⟨b,o,none⟩ n cap L rfl hlen (HNW.out _ hb1) HON.out (by unfold maxLen;omega) (by omega) (by simp) ?_;intro v' w1 hown' hgrow hnil))
 go_ret
 rw[Nat.zero_add,List.nil_append] at hown'
 have hbw:=hb1.grown hgrow (by simp) (fun p hp=>(World.ownsRow.lt how p hp).1)
 rcases hown'.2 with ⟨rfl,_⟩ | ⟨g,cp,cur,rfl,hbg,hg,hnc,hcm,hcs,htake⟩
 ·exact absurd (hnil.1 rfl).1 (by intro e;cases e)
 ·refine ⟨g,cp,cur,rfl,hg,fun i hi=>?_,hbg,hbw⟩
  have h1:=HGT.out i hi
  rw[←htake,List.getElem?_take_of_lt hi] at h1
  rw[←Array.getElem?_toList]
  exact h1
end
end Go.Proofs.YtgacaecjinlhiaaGreatDoor
