import Derived.Test.YtpcnpkhgjanamaaGreatDoorPz
import Derived.Test.YtpcnpkhgjanamaaGreatDoorJn22
import Derived.Test.YtpcnpkhgjanamaaGreatDoorJn19
namespace Go.Proofs.YtpcnpkhgjanamaaGreatDoor
open Go.Proofs.Tryz renaming prog→qf,underlying33→Wp,underlying26→Yx
open Go renaming Value→R2,World→V8,TypeId→Wj,Calls→WA
open Go.RowKit renaming Below→Wh
set_option maxHeartbeats 4000000
set_option maxRecDepth 100000
section
open Go.RowKit PK
def VD:Rd:=⟨fun i=>i,fun _=>false,false,0,0,0⟩
def lp(t:List UInt8):Nat→Rd
 |0=>VD
 |k+1=>(lp t k).next (t.getD k 0).toNat
def fK(t:List UInt8):Nat→Option (Int×Nat)
 |0=>none
 |k+1=>match fK t k with
  |some x=>some x
  |none=>if(lp t k).err (t.getD k 0).toNat≠0 then some ((lp t k).err (t.getD k 0).toNat,k)else none
def bE(t:List UInt8):(Nat→Int)×Int×Nat:=
 match fK t t.length with
 |some x=>(fun _=>0,x.1,x.2)
 |none=>if(lp t t.length).op=true then(fun _=>0,2,t.length)else(Pm.up (lp t t.length).p,0,0)
theorem Ew(t : List UInt8)(k n : Nat)(x : Int×Nat)(h : fK t k = some x)(hn : k≤n): fK t n = some x:=by
  induction n with
  | zero => have : k = 0 := by omega
            subst this;exact h
  |succ n ih=>
    by_cases e : k = n + 1
    · rw[← e];exact h
    · have:=ih vom
      show(match fK t n with|some x=>some x|none=>_)=_;rw[this]
theorem DJ(t:List UInt8)(k:Nat)(h:fK t k=none)(hz:(lp t k).err (t.getD k 0).toNat=0):fK t (k+1)=none:=by
 show(match fK t k with|some x=>some x|none=>if(lp t k).err (t.getD k 0).toNat≠0 then some ((lp t k).err (t.getD k 0).toNat,k)else none)=none;rw[h];exact V9 (fun hn=>hn hz)
theorem Ct(t:List UInt8)(k:Nat)(h:fK t k=none)(hz:(lp t k).err (t.getD k 0).toNat≠0)(hk:k<t.length):fK t t.length=some ((lp t k).err (t.getD k 0).toNat,k):=by
 refine Ew t (k+1) t.length _ ?_ vom;show(match fK t k with|some x=>some x|none=>if(lp t k).err (t.getD k 0).toNat≠0 then some ((lp t k).err (t.getD k 0).toNat,k)else none)=_;rw[h];exact Wc hz
theorem BP(t:List UInt8):∀k,(lp t k).long≤k∧((lp t k).long=0∨(lp t k).last<26)
 |0=>⟨R3 _,.inl rfl⟩
 |k+1=>by
  have ih:=BP t k;show((lp t k).next (t.getD k 0).toNat).long≤k+1∧_;show _∧(((lp t k).next (t.getD k 0).toNat).long=0∨((lp t k).next (t.getD k 0).toNat).last<26);generalize lp t k=s at *;generalize (t.getD k 0).toNat=c;unfold Rd.next
  split
  ·exact⟨vsi,.inl rfl⟩
  ·split
   ·exact⟨by simpa using(by omega:s.long≤k+1),by simpa using ih.2⟩
   ·split
    ·rename_i h1 h2 h3
     unfold Rd.rX;split
     ·exact⟨vom,ih.2⟩
     ·exact⟨by simp[Rd.letter];omega,.inr (by simp[Rd.letter];omega)⟩
    ·exact⟨vom,ih.2⟩
theorem LA(place:Nat→Option (Nat×Nat))(c:Array R2)(k off n:Nat)(v:R2)(hp:place k=some (off,n))(hv:v.cells.size=n)(hc:off+n≤c.size):
  Instr.fill place c [(k,v)]=some (v.cells.zipIdx.foldl (fun cs x=>cs.setIfInBounds (off+x.2) x.1) c):=by
 rw[Instr.fill,hp];simp only;rw[V9 (by rw[hv];simp;omega)]
 rfl
theorem y8(parts:List (Nat×R2)):qf.built 229 parts=Instr.fill (fun i=>(#[(0,26),(26,26),(52,1),(53,1),(54,1),(55,1)]:Array (Nat×Nat))[i]?) (bh ⟨fun _=>0,fun _=>false,false,0,0,0⟩) parts:=vkr
theorem vi(f:Nat→Nat):qf.built 229 [(0,.agg (ints 26 (Pm.up f)))]=some (bh ⟨f,fun _=>false,false,0,0,0⟩):=by
 rw[y8,LA _ _ 0 0 26 (.agg (ints 26 (Pm.up f))) rfl (ag 26 _) (by rw[bh,aU];decide)];refine XI some ?_;have h0:(Value.agg (ints 26 (Pm.up f))).cells=ints 26 (Pm.up f):=rfl;rw[h0,←Array.foldl_toList,Array.toList_zipIdx];have h1:=jM 56 0 (ints 26 (Pm.up f)).toList 0 (dw ⟨fun _=>0,fun _=>false,false,0,0,0⟩);refine Eq.trans h1 ?_;refine cy fun i hi=>?_;rw[sB];by_cases e:i<26
 ·rw[Wc vso]
  simp[e,dw,Pm.up]
 ·rw[V9 vso]
  simp[e,dw]
theorem Bu:(qf.info? 229).map (·.size)=some 56:=vkr
theorem gp:(qf.info? 26).map (·.size)=some 2:=vkr
theorem tj{P:Program}{ops:Array Oper}{rest:List Oper}{op:Oper}{a:Act}{w:V8}{Q:Exit→Act→V8→Prop}(hgd:op.guard=none)(t:Wj)(k:Nat)(x:Operand)(ho:op.op=.build t #[(k,x)])
  (v:R2) (hx:a.eval x=v) (cells:Array R2) (hb:P.built t [(k,v)]=some cells) (h:wpList P ops Q rest (a.put op.dst (.agg cells)) w):wpList P ops Q (op :: rest) a w:=
 wpList_plain hgd fun _ hK=>by
  unfold Oper.wp execOp;have hm:(#[(k,x)]:Array (Nat×Operand)).map (fun(i,x)=>(i,a.eval x))=#[(k,v)]:=by simp[hx]
  simp only[ho,XQ,hm,run_build w t #[(k,v)] cells hb,Xo];exact hK _ _ h
theorem gQ{P:Program}{fn:Func}{p q:Tmp}{ty ty2:Wj}(h:fn.results=#[.cell p ty,.cell q ty2])(tmps:Array R2)(w:V8)(g g2:Nat)(t t2:Wj)(cs cs2:Array R2)(fr fr2:Nat×Nat)(d d2:TypeDesc)
  (hp:tmps.getD p undef=.pointer (some ⟨g,0,none⟩)) (hq:tmps.getD q undef=.pointer (some ⟨g2,0,none⟩)) (hg:w.heap[g]?=some (.cells cs t fr)) (hg2:w.heap[g2]?=some (.cells cs2 t2 fr2))
  (hu:P.underlying ty=some d) (hd:(match d with|.struct _|.array _ _=>true|_=>false)=true) (hi:(P.info? ty).map (·.size)=some cs.size)
  (hu2:P.underlying ty2=some d2) (hd2:(match d2 with|.struct _|.array _ _=>true|_=>false)=true) (hi2:(P.info? ty2).map (·.size)=some cs2.size) :
  (results fn tmps).run P w=.ok (.tuple #[.agg cs,.agg cs2]) w:=by
 have b:tmps[p]?.getD undef=.pointer (some ⟨g,0,none⟩):=by simpa using hp
 have a:tmps[q]?.getD undef=.pointer (some ⟨g2,0,none⟩):=by simpa using hq
 simp[results,h,b,a,asAddr,run_loadVar_row w g t ty cs fr d hg hu hd hi,run_loadVar_row w g2 t2 ty2 cs2 fr2 d2 hg2 hu2 hd2 hi2]
theorem vp(a b:Int):(#[.int .i64 a,.int .i64 b]:Array R2).all (·.oneCell')=true:=by
 rw[WJ];intro v hv;simp at hv;rcases hv with rfl|rfl<;>rfl
theorem Sn(t:ByteArray)(k:Nat)(hk:k<t.size):t.data.toList.getD k 0=t[k]:=by
 have a:k<t.data.toList.length:=hk;simp only[List.getD,Wu a]
 rfl
theorem MQ{w:V8}{b:Nat}{T:Wj}{s:Rd}(h:af w b T (bh s)):w.rangeAt b 0 (ints 26 (Pm.up s.p)).toList:=fun j v hv=>by
 have hj:j<26:=by
  have:=(WW.1 hv).1;simpa[ag]using this
 have hv':(ints 26 (Pm.up s.p))[j]?=some v:=by simpa using hv
 rw[aB _ hj]at hv';have:=(fS h).1 j hj;have e:(⟨b,0+j,none⟩:Addr)=⟨b,j,none⟩:=vsi;rw[e,this];exact hv'
theorem Iq{w W1:V8}{T U:Wj}{z:Nat→Int}{c:Array R2}(hb:Wh ((w.alloc (.cells (ints 26 z) T)).alloc (.cells c U)).heap.size ((w.alloc (.cells (ints 26 z) T)).alloc (.cells c U)) W1):
  af W1 w.heap.size T (ints 26 z)∧af W1 (w.heap.size+1) U c∧Wh w.heap.size w W1∧w.heap.size+2≤W1.heap.size:=by
 have hs:=hb.size;simp at hs;refine⟨af.below ((af.new w _ _).alloc _) hb (by simp<;>omega),af.below (af.newAt vsi) hb (by simp<;>omega),?_,hs⟩;exact(((Below.refl _ _).alloc (R3 _) _).alloc vsi _).trans (hb.mono (by simp<;>omega))
theorem Kx(t:ByteArray)(hs:t.size≤maxLen)(w:V8):
  WA qf 137 #[.string t] w fun e w'=>e=.returned (.tuple #[.agg (ints 26 (bE t.data.toList).1),.agg #[.int .i64 (bE t.data.toList).2.1,.int .i64 ((bE t.data.toList).2.2:Nat)]])∧Wh w.heap.size w w':=by
 unfold maxLen at hs;have g:Hid (t.data.toList.length=t.size):=rfl;go_enter Tryz.func137,Tryz.ntmps137
 go_wp2_with fail
 rw[oK];refine(Hw _).mono ?_;rintro e W1 ⟨rfl,o⟩;obtain⟨r1,r2,h,y⟩:=Iq o;clear o
 go_wp2_with (first
  |refine tj rfl 229 0 _ rfl (.agg (ints 26 (Pm.up fun i=>i))) rfl _ (vi fun i=>i) ?_
  |(refine Wk rfl 229 _ _ rfl W1.heap.size (bh VD) rfl rfl 229 _ (af.new W1 _ _) (by rw[bh,aU];exact Bu) (by rw[bh,aU];rfl) (Dc _) ?_;rw[World.setRow_alloc_new]))
 go_loopw [11] (fun i W=>∃k:Nat,k≤t.size∧i=.int .i64 k∧Hid (fK t.data.toList k=none)∧af W W1.heap.size 229 (bh (lp t.data.toList k))∧af W w.heap.size 33 (ints 26 fun _=>0)∧af W (w.heap.size+1) 26 #[.int .i64 0,.int .i64 0]∧Wh w.heap.size w W) (fun i _=>(t.size-intOf i).toNat)
 case atStart=>
  exact⟨0,XE _,rfl,rfl,af.new _ _ _,r1.alloc _,r2.alloc _,h.alloc vom _⟩
 case round=>
  obtain⟨k,hk,rfl,HN,f,hz,b,hb⟩:=hrel;clear r1 r2 h;have n:W1.heap.size≠w.heap.size:=vom;have m:W1.heap.size≠w.heap.size+1:=vom;by_cases hlt:k<t.size
  ·have HB:Hid ((t.data.toList.getD k 0).toNat=t[k].toNat):=by rw[Hid,Sn t k hlt]
   have hl:=BP t.data.toList k;have u:t[k].toNat<256:=UInt8.toNat_lt t[k]
   have HT:Hid (WA qf 162 #[.pointer (some ⟨W1.heap.size,0,none⟩),.int .u8 (t[k].toNat:Nat)] wr fun e w'=>e=.returned (.int .i64 ((lp t.data.toList k).err t[k].toNat))∧af w' W1.heap.size 229 (bh ((lp t.data.toList k).next t[k].toNat))∧gS W1.heap.size wr w'):=
    Kj (lp t.data.toList k) W1.heap.size t[k].toNat u vom hl.2 wr f
   obtain⟨E,hE⟩:∃E,E=(lp t.data.toList k).err t[k].toNat:=⟨_,rfl⟩
   rw[←hE]at HT;have HE:Hid (E=(lp t.data.toList k).err t[k].toNat):=hE;clear hE hl;by_cases e0:E=0
   ·rw[e0]at HT
    have HZ:Hid (E=0):=e0;clear e0
    go_wp2_with fail
    refine HT.out.mono ?_;rintro e w2 ⟨rfl,d,o2⟩;go_wp2;go_roundw
    case rel=>
     refine⟨k+1,vom,by go_num,?_,?_,(o2.block _ (Ne.symm n)).trans hz,(o2.block _ (Ne.symm m)).trans b,⟨o2.os.trans hb.os,o2.tape.trans hb.tape,o2.output.trans hb.output,by rw[o2.size];exact hb.size,fun j hj=>(o2.block j vom).trans (hb.block j hj)⟩⟩
     ·exact DJ _ k HN.out (by rw[HB.out,←HE.out];exact HZ.out)
     ·show af _ _ _ (bh ((lp t.data.toList k).next (t.data.toList.getD k 0).toNat))
      rw[HB.out];exact d
    case measure=>simp[intOf];omega
   ·have z:(E != 0)=true:=by simpa using e0
    have HO:Hid (bE t.data.toList=(fun _=>0,E,k)):=by
     have:=Ct t.data.toList k HN.out (by rw[HB.out,←HE.out];exact e0) (by rw[g.out];exact hlt);rw[HB.out,←HE.out]at this;rw[Hid,bE,this]
    clear e0
    go_wp2_with fail
    refine HT.out.mono ?_;rintro e w2 ⟨rfl,d,o2⟩;have l:af w2 w.heap.size 33 (ints 26 fun _=>0):=(o2.block _ (Ne.symm n)).trans hz;have c:af w2 (w.heap.size+1) 26 #[.int .i64 0,.int .i64 0]:=(o2.block _ (Ne.symm m)).trans b;have s:Wh w.heap.size w w2:=⟨o2.os.trans hb.os,o2.tape.trans hb.tape,o2.output.trans hb.output,by rw[o2.size];exact hb.size,fun j hj=>(o2.block j vom).trans (hb.block j hj)⟩
    go_wp2_with (first
     |refine cS rfl 33 rfl _ rR ?_
     |refine Wk rfl 33 _ _ rfl w.heap.size (ints 26 fun _=>0) rfl rfl 33 _ l (by rw[ag];exact aj) (by simp only[ag]) (aI _ _) ?_
     |refine Wk rfl 26 _ _ rfl (w.heap.size+1) #[.int .i64 E,.int .i64 (k:Int)] rfl rfl 26 _ (c.bG _ _ vom) gp rfl (vp _ _) ?_)
    rw[HO.out];exact WL (v:=.tuple #[.agg (ints 26 fun _=>0),.agg #[.int .i64 E,.int .i64 (k:Int)]]) (gQ rfl _ _ w.heap.size (w.heap.size+1) 33 26 _ _ (0,0) (0,0) _ _ rfl rfl ((l.row _).bG _ _ vom) ((c.bG _ _ vom).row _) Wp rfl (by rw[ag];exact aj) Yx rfl gp) rfl ⟨rfl,Below.setRow (Below.setRow s _ (R3 _) _) _ vom _⟩
  ·have HK:Hid (k=t.size):=by rw[Hid];omega
   obtain⟨_,_,q,_⟩:=fS f;cases ho:(lp t.data.toList k).op
   ·rw[ho]at q
    have HO:Hid (bE t.data.toList=(Pm.up (lp t.data.toList k).p,0,0)):=by
     have e1:t.data.toList.length=k:=g.out.trans HK.out.symm;rw[Hid,bE,e1,HN.out];simp[ho]
    clear ho;have a:wr.rangeAt W1.heap.size 0 (ints 26 (Pm.up (lp t.data.toList k).p)).toList:=MQ f;have x:Hid (wr.rangeAt W1.heap.size 0 (ints 26 (Pm.up (lp t.data.toList k).p)).toList):=a;clear a
    go_wp2_with (first
     |refine ZX rfl 33 _ rfl W1.heap.size 0 rfl (ints 26 (Pm.up (lp t.data.toList k).p)).toList _ x.out Wp rfl (by rw[Wx,ag];exact aj) ?_
     |refine Wk rfl 33 _ _ rfl w.heap.size (ints 26 (Pm.up (lp t.data.toList k).p)) rfl rfl 33 _ hz (by rw[ag];exact aj) (by simp only[ag]) (aI _ _) ?_
     |refine Wk rfl 26 _ _ rfl (w.heap.size+1) #[.int .i64 0,.int .i64 0] rfl rfl 26 _ (b.bG _ _ vom) gp rfl (vp _ _) ?_)
    rw[HO.out];exact WL (v:=.tuple #[.agg (ints 26 (Pm.up (lp t.data.toList k).p)),.agg #[.int .i64 0,.int .i64 0]]) (gQ rfl _ _ w.heap.size (w.heap.size+1) 33 26 _ _ (0,0) (0,0) _ _ rfl rfl ((hz.row _).bG _ _ vom) ((b.bG _ _ vom).row _) Wp rfl (by rw[ag];exact aj) Yx rfl gp) rfl ⟨rfl,Below.setRow (Below.setRow hb _ (R3 _) _) _ vom _⟩
   ·rw[ho]at q
    have HO:Hid (bE t.data.toList=(fun _=>0,2,t.size)):=by
     have e1:t.data.toList.length=k:=g.out.trans HK.out.symm;rw[Hid,bE,e1,HN.out];simp[ho];exact HK.out
    clear ho
    go_wp2_with (first
     |refine cS rfl 33 rfl _ rR ?_
     |refine Wk rfl 33 _ _ rfl w.heap.size (ints 26 fun _=>0) rfl rfl 33 _ hz (by rw[ag];exact aj) (by simp only[ag]) (aI _ _) ?_
     |refine Wk rfl 26 _ _ rfl (w.heap.size+1) #[.int .i64 2,.int .i64 (t.size:Int)] rfl rfl 26 _ (b.bG _ _ vom) gp rfl (vp _ _) ?_)
    rw[HO.out];exact WL (v:=.tuple #[.agg (ints 26 fun _=>0),.agg #[.int .i64 2,.int .i64 (t.size:Int)]]) (gQ rfl _ _ w.heap.size (w.heap.size+1) 33 26 _ _ (0,0) (0,0) _ _ rfl rfl ((hz.row _).bG _ _ vom) ((b.bG _ _ vom).row _) Wp rfl (by rw[ag];exact aj) Yx rfl gp) rfl ⟨rfl,Below.setRow (Below.setRow hb _ (R3 _) _) _ vom _⟩
def pair(f g:Nat→Int):Nat→Nat→Int:=fun k=>if k=0 then f else g
theorem Nx(p q:Nat→Nat)(hp:Pm.aC p)(hq:Pm.aC q):Pm.cm (pair (Pm.up p) (Pm.up q)) 2=0:=by
 have h1:=Pm.ff (pair (Pm.up p) (Pm.up q)) 0 rfl;have h2:Pm.cm (pair (Pm.up p) (Pm.up q)) 1=0:=h1.trans (Pm.pI p hp);exact(Pm.ff _ 1 h2).trans (Pm.pI q hq)
theorem IL(p q:Nat→Nat)(i:Nat)(hi:i<26)(hp:Pm.aC p)(bp bq:Nat)(w:V8)(hrp:af w bp 33 (ints 26 (Pm.up p)))(hrq:af w bq 33 (ints 26 (Pm.up q))):
  WA qf 105 #[.int .i64 (i:Int),.pointer (some ⟨bq,0,none⟩),.pointer (some ⟨bp,0,none⟩)] w fun e w'=>e=.returned (.tuple #[.int .i64 (i:Int),.int .i64 (q (p i):Nat)])∧Wh w.heap.size w w':=by
 have c:=hp.lt i hi;have b:=hrp.cell (aB (Pm.up p) hi);have a:=hrq.cell (aB (Pm.up q) c);simp only[Pm.up]at b a;clear hrp hrq;generalize p i=n at *;go_enter Tryz.func105,Tryz.ntmps105;go_wp2
 go_quiet (fail)
 go_wp2
 go_ret2
 exact⟨rfl,rfl,rfl,rfl,R3 _,fun _ _=>rfl⟩
theorem then_ok(p q:Nat→Nat)(hp:Pm.aC p)(hq:Pm.aC q)(w:V8):
  WA qf 63 #[.agg (ints 26 (Pm.up p)),.agg (ints 26 (Pm.up q))] w fun e w'=>e=.returned (.tuple #[.agg (ints 26 (Pm.up (fun i=>q (p i)))),.int .i64 0])∧Wh w.heap.size w w':=by
 have H0:Hid (Pm.cm (pair (Pm.up p) (Pm.up q)) 2=0):=Nx p q hp hq;have j:∀(fn:Fn) (first cap:Array R2) (w:V8),(Instr.makeFunc fn first cap).run qf w=.ok (.func fn first cap) w:=fun _ _ _ _=>rfl;go_enter Tryz.func63,Tryz.ntmps63
 go_wp2_with (first
  |refine Wn rfl 33 _ rfl w.heap.size rfl 33 (ints 26 (Pm.up p)) (0,0) _ (((af.new w _ _).alloc _).alloc _) Wp rfl (by rw[ag];exact aj) ?_
  |refine Wn rfl 33 _ rfl (w.heap.size+1) rfl 33 (ints 26 (Pm.up q)) (0,0) _ (by rw[←WI w];exact(af.new _ _ _).alloc _) Wp rfl (by rw[ag];exact aj) ?_
  |refine wI rfl 113 33 _ _ rfl 26 (Pm.up p) (Pm.up q) rfl rfl vde Tryz.underlying113 rm vde ?_)
 rw[oK];refine(iI (pair (Pm.up p) (Pm.up q)) 2 (R3 _) _ _ vsi (IF (af.newAt vsi))).mono ?_;rintro e W1 ⟨rfl,c⟩;obtain⟨r1,r2,r3,d,g⟩:=Rk c;clear c;rw[H0.out]
 go_wp2_with fail
 refine(oe 105 #[.pointer (some ⟨w.heap.size+1,0,none⟩),.pointer (some ⟨w.heap.size,0,none⟩)] (fun i=>i) (Pm.up fun i=>q (p i)) (fun _ h=>h) _ (by intro args W;go_simp) (fun i hi W hW=>IL p q i hi hp _ _ W (r1.below hW vom) (r2.below hW vom))).mono ?_;rintro e W2 ⟨rfl,b⟩;rw[FB];have f:=b.size;have a:=r3.below b vom
 go_wp2_with (refine Wk rfl 33 _ _ rfl (w.heap.size+1+1) (ints 26 (Pm.up (fun i=>q (p i)))) rfl rfl 33 _ a (by rw[ag];exact aj) (by simp only[ag]) (aI _ _) ?_)
 exact WL (v:=.tuple #[.agg (ints 26 (Pm.up (fun i=>q (p i)))),.int .i64 0]) (aF rfl _ _ (w.heap.size+1+1) 33 _ (0,0) _ _ rfl rfl (a.row _) Wp rfl (by rw[ag];exact aj)) rfl ⟨rfl,Below.setRow (d.trans (b.mono vom)) _ vom _⟩
end
section
open Go.RowKit PK Vg
theorem yC(l:List UInt8)(p:Nat)(hs:l.length≤65536)(w:V8):
  WA qf 72 #[wm l p] w fun e w'=>(jW l=0→e=.returned (.string ⟨l.toArray⟩))∧(jW l≠0→e=.panicked [gY (jW l) p])∧Wh w.heap.size w w':=by
 obtain⟨s,c⟩:∃s:ByteArray,s=⟨l.toArray⟩:=⟨_,rfl⟩
 have d:s.data.toList=l:=by rw[c]
 have hz:=Pl.aN s;rw[d]at hz;unfold wm;rw[←c];have g:Wh w.heap.size w (w.alloc (.cells #[.string s,.int .i64 (p:Int)] 87)):=(Below.refl _ w).alloc (R3 _) _;have b:=af.new w 87 #[.string s,.int .i64 (p:Int)];have c0:=af.cell b (i:=0) rfl;have c1:=af.cell b (i:=1) rfl;have HB:Hid _:=g;have HQ:Hid (af (w.alloc (.cells #[.string s,.int .i64 (p:Int)] 87)) w.heap.size 87 #[.string s,.int .i64 (p:Int)]):=b;have HK:Hid (∀X,WA qf 77 #[.string s] X fun e w'=>e=.returned (.int .i64 (jW l))∧Wh X.heap.size X w'):=fun X=>by rw[←d];exact Ml s X
 generalize jW l=E at *;have j:s.size≤65536:=vom;clear hz d c g b c0 c1;go_enter Tryz.func72,Tryz.ntmps72
 go_wp2_with fail
 by_cases hE:E=0
 ·have k:Hid (E=0):=hE
  have HP:Hid (∀X,WA qf 19 #[.int .i64 E,.int .i64 (p:Int)] X fun e w'=>e=.returned (.tuple #[])∧w'=X):=fun X=>by rw[hE];exact jd _ X
  clear hE;refine Xb ?_;refine Wz (S:=fun W=>af W w.heap.size 87 #[.string s,.int .i64 (p:Int)]∧Wh w.heap.size w W) vkr ⟨HQ.out,HB.out.drew⟩ (fun hS=>?_);refine vuq 0 3 (.pointer (some ⟨w.heap.size,0,none⟩)) ?_;refine vuk 1 4 (.string s) rfl (fun W hW=>by have u:=af.cell hW.1 (i:=0) rfl;clear hS hW;go_simp) hS ?_;refine vuq 3 6 (.pointer (some ⟨w.heap.size,1,none⟩)) ?_;refine vuk 4 7 (.int .i64 (p:Int)) rfl (fun W hW=>by have u:=af.cell hW.1 (i:=1) rfl;clear hS hW;go_simp) hS ?_;refine rd1 2 rfl (fun K hK=>?_);go_simp;refine We (HK.out _) ?_;rintro e Y ⟨rfl,a⟩;refine hK.out _ _ (⟨af.below hS.1 a (af.lt hS.1),hS.2.trans (a.mono hS.2.size)⟩) (fun hS1=>?_);clear hK hS K;have hS:=hS1;clear hS1;refine rd1 5 rfl (fun K hK=>?_);go_simp;refine We (HP.out _) ?_;rintro e Y ⟨rfl,rfl⟩;refine hK.out _ _ (hS) (fun hS1=>?_);clear hK hS K;have hS:=hS1;clear hS1;refine Xq vkr ?_ _;refine WU ?_;have HY:Hid (Wh w.heap.size w Y):=hS.2;have u0:=af.cell hS.1 (i:=0) rfl;have HC:Hid _:=xE s j Y;clear hS
  go_wp2_with fail
  refine We HC.out ?_;rintro e V ⟨rfl,hb⟩;go_wp2;go_ret;exact⟨fun _=>rfl,fun h=>absurd k.out h,HY.out.trans (hb.mono HY.out.size)⟩
 ·have f:Hid (E≠0):=hE
  have HP:Hid (∀X,WA qf 19 #[.int .i64 E,.int .i64 (p:Int)] X fun e w'=>e=.panicked [gY E (p:Int)]∧w'=X):=fun X=>gG E _ (by simpa using hE) X;clear hE;refine Wz (S:=fun W=>af W w.heap.size 87 #[.string s,.int .i64 (p:Int)]∧Wh w.heap.size w W) vkr ⟨HQ.out,HB.out.drew⟩ (fun hS=>?_);refine vvq 0 3 (.pointer (some ⟨w.heap.size,0,none⟩)) ?_;refine vup 1 4 (.string s) rfl (fun W hW=>by have u:=af.cell hW.1 (i:=0) rfl;clear hS hW;go_simp) hS ?_;refine vvq 3 6 (.pointer (some ⟨w.heap.size,1,none⟩)) ?_;refine vup 4 7 (.int .i64 (p:Int)) rfl (fun W hW=>by have u:=af.cell hW.1 (i:=1) rfl;clear hS hW;go_simp) hS ?_;refine rd1 2 rfl (fun K hK=>?_);go_simp;refine We (HK.out _) ?_;rintro e Y ⟨rfl,a⟩;refine hK.out _ _ (⟨af.below hS.1 a (af.lt hS.1),hS.2.trans (a.mono hS.2.size)⟩) (fun hS1=>?_);clear hK hS K;have hS:=hS1;clear hS1;refine rd1 5 rfl (fun K hK=>?_);go_simp;refine We (HP.out _) ?_;rintro e Y ⟨rfl,rfl⟩;exact⟨rfl,fun h=>absurd h f.out,fun _=>rfl,hS.2⟩
theorem ML(l:List UInt8)(p:Nat)(w:V8):
  WA qf 111 #[wm l p] w fun e w'=>(C5 l=0→e=.returned (.agg (ints 26 (C8 l))))∧(C5 l≠0→e=.panicked [gY (C5 l) p])∧Wh w.heap.size w w':=by
 obtain⟨s,k⟩:∃s:ByteArray,s=⟨l.toArray⟩:=⟨_,rfl⟩
 have j:s.data.toList=l:=by rw[k]
 have hz:=Pl.aN s;rw[j]at hz;unfold wm;rw[←k];have x:Wh w.heap.size w (w.alloc (.cells #[.string s,.int .i64 (p:Int)] 87)):=(Below.refl _ w).alloc (R3 _) _;have b:=af.new w 87 #[.string s,.int .i64 (p:Int)];have c0:=af.cell b (i:=0) rfl;have c1:=af.cell b (i:=1) rfl;have HB:Hid _:=x;have HQ:Hid (af (w.alloc (.cells #[.string s,.int .i64 (p:Int)] 87)) w.heap.size 87 #[.string s,.int .i64 (p:Int)]):=b;obtain⟨W2,c⟩:∃W2,W2=(w.alloc (.cells #[.string s,.int .i64 (p:Int)] 87)).alloc (.cells (ints 26 fun _=>0) 33):=⟨_,rfl⟩
 have o:Wh w.heap.size w W2:=by rw[c];exact HB.out.alloc HB.out.size _
 have f:af W2 w.heap.size 87 #[.string s,.int .i64 (p:Int)]:=by rw[c];exact af.alloc b _
 have u:af W2 (w.heap.size+1) 33 (ints 26 fun _=>0):=by rw[c];have:=af.new (w.alloc (.cells #[.string s,.int .i64 (p:Int)] 87)) 33 (ints 26 fun _=>0);simpa using this
 have HM:Hid (WA qf 136 #[.string s] W2 fun e w'=>e=.returned (.tuple #[.agg (ints 26 (C8 l)),.int .i64 (C5 l)])∧Wh W2.heap.size W2 w'):=by rw[←j];exact CF s W2
 have u0:=af.cell f (i:=0) rfl;have y:Hid (af W2 w.heap.size 87 #[.string s,.int .i64 (p:Int)]):=f;have n:Hid (af W2 (w.heap.size+1) 33 (ints 26 fun _=>0)):=u;have q:Hid _:=o;have A:=bR dG;clear hz j k x b c0 c1 o f u;generalize C5 l=E at *;generalize C8 l=MP at *;go_enter Tryz.func111,Tryz.ntmps111
 go_upto_region 1 with fail
 rw[←c];clear c
 go_wp2_with fail
 refine We HM.out ?_;rintro e V ⟨rfl,hb⟩;have v:=af.below y.out hb (af.lt y.out);have g:=af.below n.out hb (af.lt n.out);have d:Hid (Wh w.heap.size w V):=q.out.trans (hb.mono q.out.size);have H:w.heap.size+1<V.heap.size:=af.lt g;clear hb HM u0
 go_upto_region 2 with(first|refine Wk rfl 33 _ _ rfl V.heap.size (ints 26 MP) rfl rfl 33 _ (af.new V _ _) (by rw[ag];exact aj) (by rw[ag,ag]) (aI _ _) ?_)
 obtain⟨W3,a⟩:∃W3,W3=(V.alloc (.cells (ints 26 fun _=>0) 33)).setRow V.heap.size (ints 26 MP):=⟨_,rfl⟩
 have G:af W3 w.heap.size 87 #[.string s,.int .i64 (p:Int)]:=by rw[a];exact af.bG (af.alloc v _) _ _ vom
 have m:af W3 (w.heap.size+1) 33 (ints 26 fun _=>0):=by rw[a];exact af.bG (af.alloc g _) _ _ vom
 have F:af W3 V.heap.size 33 (ints 26 MP):=by rw[a];exact af.row (af.new V _ _) _
 have z:Hid (Wh w.heap.size w W3):=by rw[Hid,a];exact PK.Below.setRow (d.out.alloc d.out.size _) _ d.out.size _
 rw[←a];have u1:=af.cell G (i:=1) rfl;clear a v g A;by_cases hE:E=0
 ·have B:Hid (E=0):=hE
  have HP:Hid (WA qf 19 #[.int .i64 E,.int .i64 (p:Int)] W3 fun e w'=>e=.returned (.tuple #[])∧w'=W3):=by rw[hE];exact jd _ W3
  clear hE
  go_wp2_with fail
  refine We HP.out ?_;rintro e V2 ⟨rfl,rfl⟩;have D:Hid (af (V2.setRow (w.heap.size+1) (ints 26 MP)) (w.heap.size+1) 33 (ints 26 MP)):=af.row m _;have C:Hid (Wh w.heap.size w (V2.setRow (w.heap.size+1) (ints 26 MP))):=PK.Below.setRow z.out _ vom _
  go_wp2_with (first|refine Wn rfl 33 _ rfl V.heap.size rfl 33 (ints 26 MP) (0,0) _ F Wp rfl (by rw[ag];exact aj) ?_|refine Wk rfl 33 _ _ rfl (w.heap.size+1) (ints 26 MP) rfl rfl 33 _ m (by rw[ag];exact aj) (by rw[ag,ag]) (aI _ _) ?_)
  exact⟨rfl,_,cE rfl _ _ (w.heap.size+1) 33 (ints 26 MP) (0,0) _ rfl D.out Wp rfl (by rw[ag];exact aj),fun _=>rfl,fun h=>absurd B.out h,C.out⟩
 ·have t:Hid (E≠0):=hE
  have HP:Hid (WA qf 19 #[.int .i64 E,.int .i64 (p:Int)] W3 fun e w'=>e=.panicked [gY E (p:Int)]∧w'=W3):=gG E _ (by simpa using hE) W3;clear hE
  go_wp2_with fail
  refine We HP.out ?_;rintro e V2 ⟨rfl,rfl⟩;exact⟨rfl,fun h=>absurd h t.out,fun _=>rfl,z.out⟩
end
end Go.Proofs.YtpcnpkhgjanamaaGreatDoor
