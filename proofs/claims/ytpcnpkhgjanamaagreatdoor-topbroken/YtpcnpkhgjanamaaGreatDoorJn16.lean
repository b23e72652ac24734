import Derived.Test.YtpcnpkhgjanamaaGreatDoorPz
import Derived.Test.YtpcnpkhgjanamaaGreatDoorJn15
namespace Go.Proofs.YtpcnpkhgjanamaaGreatDoor
open Go.Proofs.Tryz renaming prog→qf,underlying33→Wp
open Go renaming Value→R2,World→V8,Calls→WA
open Go.RowKit renaming Below→Wh
set_option maxRecDepth 100000
set_option maxHeartbeats 4000000
section
open Go.RowKit PK
def fill(a:Nat→Nat)(v:Nat→Int):Nat→Nat→Int
 |0=>fun _=>0
 |k+1=>upd (fill a v k) (a k) (v k)
theorem oe(m:Nat)(cap:Array R2)(a:Nat→Nat)(v:Nat→Int)(ha:∀i,i<26→a i<26)(w:V8)(hent:∀(args:Array R2) (W:V8),(callFunc m args).run qf W=.ok (.enter m args) W)
  (hp:∀i,i<26→∀W:V8,Wh w.heap.size w W→WA qf m (#[.int .i64 (i:Nat)]++cap) W fun e w'=>e=.returned (.tuple #[.int .i64 (a i:Nat),.int .i64 (v i)])∧Wh W.heap.size W w') :
  WA qf 23 #[.func (.func m) #[] cap] w fun e w'=>e=.returned (.agg (ints 26 (fill a v 26)))∧Wh w.heap.size w w':=by
 have HP:Hid (∀i,i<26→∀W:V8,Wh w.heap.size w W→WA qf m (#[.int .i64 (i:Nat)]++cap) W fun e w'=>e=.returned (.tuple #[.int .i64 (a i:Nat),.int .i64 (v i)])∧Wh W.heap.size W w'):=hp;clear hp;go_enter Tryz.func23,Tryz.ntmps23;go_wp2;rw[oK];go_loopw [7] (fun i W=>∃k:Nat,k≤26∧i=.int .i64 k∧af W w.heap.size 33 (ints 26 fun _=>0)∧af W (w.heap.size+1) 33 (ints 26 (fill a v k))∧Wh w.heap.size w W) (fun i _=>(26-intOf i).toNat)
 case atStart=>
  refine⟨0,vom,rfl,(af.new w _ _).alloc _,?_,((Below.refl _ _).alloc (R3 _) _).alloc vsi _⟩;have:=af.new (w.alloc (Obj.cells (ints 26 fun _=>0) 33)) 33 (ints 26 fun x=>0);rw[WI]at this;exact this
 case round=>
  obtain⟨k,hk,rfl,b,d,hb⟩:=hrel;by_cases hlt:k<26
  ·have g:=ha k hlt
   have h:=hb.size;have h1:=d.lt;have HW:=HP.out k hlt wr hb;have HV:Hid (WA qf m (#[.int .i64 (k:Nat)]++cap) wr fun e w'=>e=.returned (.tuple #[.int .i64 (a k:Nat),.int .i64 (v k)])∧Wh wr.heap.size wr w'):=HW;clear HW;obtain⟨n,hn⟩:∃n:Nat,n=a k:=⟨_,rfl⟩
   rw[←hn]at HV g;have j:Hid (n=a k):=hn;clear hn
   go_wp2_with fail
   refine HV.out.mono ?_;rintro e w1 ⟨rfl,f⟩;have c:=d.below f h1;have hc:=c.cell (aB (fill a v k) g);have hf:=c.frozen n;go_wp2;go_roundw
   case rel=>
    refine⟨k+1,vom,by go_num,?_,?_,?_⟩
    ·exact(b.below f b.lt).setOther _ _ vsi
    ·have:=c.set n (.int .i64 (v k))
     rw[ints_set]at this;show af _ _ _ (ints 26 (upd (fill a v k) (a k) (v k)));rw[←j.out];exact this
    ·exact(hb.trans (f.mono h)).setCell vsi _
   case measure=>simp[intOf];omega
  ·have HK:Hid (k=26):=by rw[Hid];omega
   have h1:=d.lt
   go_wp2_with (first
    |refine Wn rfl 33 _ rfl (w.heap.size+1) rfl 33 (ints 26 (fill a v k)) (0,0) _ d Wp rfl (by rw[ag];exact aj) ?_
    |refine Wk rfl 33 _ _ rfl w.heap.size (ints 26 (fill a v k)) rfl rfl 33 _ b (by rw[ag];exact aj) (by simp only[ag]) (aI _ _) ?_)
   refine WL (v:=.agg (ints 26 (fill a v k))) (results_cell_row rfl _ _ w.heap.size 33 _ (0,0) _ rfl (b.row _) Wp rfl (by rw[ag];exact aj)) rfl ⟨by rw[HK.out],Below.setRow hb _ (R3 _) _⟩
theorem zJ(a:Nat→Nat)(v:Nat→Int)(hi:∀i j,i<26→j<26→a i=a j→i=j):∀k,k≤26→∀i,i<k→fill a v k (a i)=v i
 |0,_,i,h=>by omega
 |k+1,hk,i,h=>by
  show upd (fill a v k) (a k) (v k) (a i)=v i;by_cases e:i=k
  ·subst e;simp
  ·rw[cH _ _ (fun e2=>e (hi i k vom vom e2))]
   exact zJ a v hi k vom i vom
theorem FB(v:Nat→Int):ints 26 (fill (fun i=>i) v 26)=ints 26 v:=b8 fun j hj=>zJ (fun i=>i) v (fun _ _ _ _ e=>e) 26 (R3 _) j hj
theorem GY(i:Int)(w:V8):WA qf 24 #[.int .i64 i] w fun e w'=>e=.returned (.tuple #[.int .i64 i,.int .i64 i])∧w=w':=by
 go_enter Tryz.func24,Tryz.ntmps24;go_wp2
 go_ret2
 exact⟨rfl,rfl⟩
theorem qv(w:V8):WA qf 7 #[] w fun e w'=>e=.returned (.agg (ints 26 (Pm.up fun i=>i)))∧Wh w.heap.size w w':=by
 go_enter Tryz.func7,Tryz.ntmps7
 go_wp2_with fail
 rw[oK];refine(oe 24 #[] (fun i=>i) (Pm.up fun i=>i) (fun _ h=>h) _ (by intro args W;go_simp) (fun i hi W _=>(GY i W).mono ?_)).mono ?_
 ·rintro e w' ⟨rfl,rfl⟩
  exact⟨rfl,Below.refl _ _⟩
 ·rintro e w1 ⟨rfl,b⟩
  rw[FB];have a:=(af.new w 33 (ints 26 fun _=>0)).below b vsi
  go_wp2_with (refine Wk rfl 33 _ _ rfl w.heap.size (ints 26 (Pm.up fun i=>i)) rfl rfl 33 _ a (by rw[ag];exact aj) (by simp only[ag]) (aI _ _) ?_)
  exact WL (v:=.agg (ints 26 (Pm.up fun i=>i))) (results_cell_row rfl _ _ w.heap.size 33 _ (0,0) _ rfl (a.row _) Wp rfl (by rw[ag];exact aj)) rfl ⟨rfl,Below.setRow (((Below.refl _ _).alloc (R3 _) _).trans (b.mono vsi)) _ (R3 _) _⟩
theorem iI(fs:Nat→Nat→Int)(n:Nat)(hn:n≤2)(b:Nat)(w:V8)(hbw:b<w.heap.size)(hr:∀k,k<n→w.rangeAt b (k*26) (ints 26 (fs k)).toList):
  WA qf 64 #[.slice (some ⟨b,0,none⟩) n n] w fun e w'=>e=.returned (.int .i64 (Pm.cm fs n))∧Wh w.heap.size w w':=by
 have HR:Hid (∀k,k<n→w.rangeAt b (k*26) (ints 26 (fs k)).toList):=hr;clear hr;go_enter Tryz.func64,Tryz.ntmps64;go_wp2;go_loopw [8] (fun i W=>∃k:Nat,k≤n∧i=.int .i64 k∧Hid (Pm.cm fs k=0)∧Wh w.heap.size w W) (fun i _=>(n-intOf i).toNat)
 case atStart=>exact⟨0,vom,rfl,rfl,Below.refl _ _⟩
 case round=>
  obtain⟨k,hk,rfl,HN,hb⟩:=hrel;have d:=hb.size;by_cases hlt:k<n
  ·have HC:Hid (wr.rangeAt b (k*26) (ints 26 (fs k)).toList):=Below.rangeAt hb (HR.out k hlt) hbw
   have hX:Pm.wrong (fs k)=0∨(Pm.wrong (fs k) != 0)=true:=by by_cases e:Pm.wrong (fs k)=0<;>simp[e]
   obtain⟨x,hx⟩:∃x,x=Pm.wrong (fs k):=⟨_,rfl⟩
   rw[←hx]at hX;have HX:Hid (x=Pm.wrong (fs k)):=hx;clear hx;have a:∀W:V8,WA qf 106 #[.agg (ints 26 (fs k))] W fun e w'=>e=.returned (.int .i64 x)∧Wh W.heap.size W w':=fun W=>by rw[HX.out];exact qG (fs k) W
   have HL:Hid (∀W:V8,WA qf 106 #[.agg (ints 26 (fs k))] W fun e w'=>e=.returned (.int .i64 x)∧Wh W.heap.size W w'):=a;clear a;rcases hX with rfl|hX
   ·go_wp2_with (first
     |refine ZX rfl 33 _ rfl b (k*26) rfl (ints 26 (fs k)).toList _ HC.out Wp rfl (by rw[Wx,ag];exact aj) ?_
     |(refine Wk rfl 33 _ _ rfl wr.heap.size (ints 26 (fs k)) rfl rfl 33 _ (af.new wr _ _) (by rw[ag];exact aj) (by rw[ag];rfl) (aI _ _) ?_;rw[World.setRow_alloc_new])
     |refine Wn rfl 33 _ rfl wr.heap.size rfl 33 (ints 26 (fs k)) (0,0) _ (af.new wr _ _) Wp rfl (by rw[ag];exact aj) ?_
     |(go_at_call 106;refine(HL.out _).mono ?_;rintro e w1 ⟨rfl,c⟩))
    go_roundw
    case rel=>exact⟨k+1,vom,by go_num,by rw[Hid,Pm.ff fs k HN.out];exact HX.out.symm,(hb.alloc d _).trans (c.mono vso)⟩
    case measure=>simp[intOf];omega
   ·go_wp2_with (first
     |refine ZX rfl 33 _ rfl b (k*26) rfl (ints 26 (fs k)).toList _ HC.out Wp rfl (by rw[Wx,ag];exact aj) ?_
     |(refine Wk rfl 33 _ _ rfl wr.heap.size (ints 26 (fs k)) rfl rfl 33 _ (af.new wr _ _) (by rw[ag];exact aj) (by rw[ag];rfl) (aI _ _) ?_;rw[World.setRow_alloc_new])
     |refine Wn rfl 33 _ rfl wr.heap.size rfl 33 (ints 26 (fs k)) (0,0) _ (af.new wr _ _) Wp rfl (by rw[ag];exact aj) ?_
     |(go_at_call 106;refine(HL.out _).mono ?_;rintro e w1 ⟨rfl,c⟩))
    go_ret;exact⟨eI (HX.out.trans (Pm.wW fs k n HN.out (by rw[←HX.out];simpa using hX) hlt).symm),(hb.alloc d _).trans (c.mono vso)⟩
  ·have HK:Hid (k=n):=by rw[Hid];omega
   go_wp2;go_ret;exact⟨eI (by rw[←HK.out];exact HN.out.symm),hb⟩
theorem rm:(qf.info? 33).map (fun i=>(i.zero,i.size))=some (some (.agg (ints 26 fun _=>0)),26):=vkr
theorem GN(p:Nat→Nat)(hp:Pm.aC p)(v:Nat→Int):ints 26 (fill p v 26)=ints 26 fun j=>v (Pm.inv p j):=b8 fun j hj=>by
 have h:=hp.fo j hj;have:=zJ p v hp.inj 26 (R3 _) (Pm.inv p j) h.1;rw[h.2]at this;exact this
theorem H7(p:Nat→Nat)(hp:Pm.aC p):ints 26 (fill p (Pm.up fun i=>i) 26)=ints 26 (Pm.up (Pm.inv p)):=GN p hp _
theorem Kl(p:Nat→Nat)(hp:Pm.aC p):Pm.cm (fun _=>Pm.up p) 1=0:=(Pm.ff (fun _=>Pm.up p) 0 rfl).trans (Pm.pI p hp)
theorem IT(p:Nat→Nat)(i:Nat)(hi:i<26)(bp:Nat)(w:V8)(hrp:af w bp 33 (ints 26 (Pm.up p))):
  WA qf 153 #[.int .i64 (i:Int),.pointer (some ⟨bp,0,none⟩)] w fun e w'=>e=.returned (.tuple #[.int .i64 (p i:Nat),.int .i64 (i:Int)])∧Wh w.heap.size w w':=by
 have a:=hrp.cell (aB (Pm.up p) hi);simp only[Pm.up]at a;clear hrp;go_enter Tryz.func153,Tryz.ntmps153;go_wp2
 go_ret2
 exact⟨rfl,rfl,rfl,rfl,R3 _,fun _ _=>rfl⟩
theorem OQ(p:Nat→Nat)(hp:Pm.aC p)(w:V8):
  WA qf 131 #[.agg (ints 26 (Pm.up p))] w fun e w'=>e=.returned (.tuple #[.agg (ints 26 (Pm.up (Pm.inv p))),.int .i64 0])∧Wh w.heap.size w w':=by
 have H0:Hid (Pm.cm (fun _=>Pm.up p) 1=0):=Kl p hp;have h:∀(fn:Fn) (first cap:Array R2) (w:V8),(Instr.makeFunc fn first cap).run qf w=.ok (.func fn first cap) w:=fun _ _ _ _=>rfl;go_enter Tryz.func131,Tryz.ntmps131
 go_wp2_with (first
  |refine Wn rfl 33 _ rfl w.heap.size rfl 33 (ints 26 (Pm.up p)) (0,0) _ ((af.new w _ _).alloc _) Wp rfl (by rw[ag];exact aj) ?_
  |refine jj rfl 113 33 _ rfl 26 (Pm.up p) rfl vde Tryz.underlying113 rm vde ?_)
 rw[oK];refine(iI (fun _=>Pm.up p) 1 vde _ _ vsi (range_one (af.newAt vsi))).mono ?_;rintro e W1 ⟨rfl,c⟩;obtain⟨r1,r3,d,g⟩:=Sk c;clear c;rw[H0.out]
 go_wp2_with fail
 refine(oe 153 #[.pointer (some ⟨w.heap.size,0,none⟩)] p (Pm.up fun i=>i) hp.lt _ (by intro args W;go_simp) (fun i hi W hW=>IT p i hi _ W (r1.below hW vom))).mono ?_;rintro e W2 ⟨rfl,b⟩;rw[H7 p hp];have f:=b.size;have a:=r3.below b vom
 go_wp2_with (refine Wk rfl 33 _ _ rfl (w.heap.size+1) (ints 26 (Pm.up (Pm.inv p))) rfl rfl 33 _ a (by rw[ag];exact aj) (by simp only[ag]) (aI _ _) ?_)
 exact WL (v:=.tuple #[.agg (ints 26 (Pm.up (Pm.inv p))),.int .i64 0]) (aF rfl _ _ (w.heap.size+1) 33 _ (0,0) _ _ rfl rfl (a.row _) Wp rfl (by rw[ag];exact aj)) rfl ⟨rfl,Below.setRow (d.trans (b.mono vom)) _ vom _⟩
end
section
open Go.RowKit PK Vg
def Co:Nat→Bool:=fun _=>false
def pO:Nat→Nat:=fun _=>0
theorem jC:(qf.info? 169).map (·.size)=some 80:=vkr
theorem IC:(qf.info? 169).map (·.zero)=some (some (.agg (nU pO pO Co 0 0))):=vkr
theorem J9(p q:Nat→Nat)(r s:Nat):qf.built 169 [(0,.agg (ints 26 (Pm.up p))),(1,.agg (ints 26 (Pm.up q))),(3,.int .i64 (r:Nat)),(4,.int .i64 (s:Nat))]=some (nU p q Co r s):=vkr
section
variable{P:Program}
theorem fe{ops:Array Oper}{rest:List Oper}{op:Oper}{a:Act}{w:V8}{Q:Exit→Act→V8→Prop}(hgd:op.guard=none)(t:TypeId)(xs:List (Nat×Operand))(ho:op.op=.build t xs.toArray)(vs:List (Nat×R2))(hv:xs.map (fun x=>(x.1,a.eval x.2))=vs)
  (cells:Array R2) (hb:P.built t vs=some cells) (h:wpList P ops Q rest (a.put op.dst (.agg cells)) w):wpList P ops Q (op :: rest) a w:=
 wpList_plain hgd fun _ hK=>by
  unfold Oper.wp execOp;have hm:xs.toArray.map (fun(i,x)=>(i,a.eval x))=vs.toArray:=by rw[←hv];simp
  simp only[ho,XQ,hm,run_build w t vs.toArray cells hb,Xo];exact hK _ _ h
end
theorem OC{l:List Nat}{k:Nat}(h:k<l.length):upd (fun c=>(l.take k).contains c) (l.getD k 0) true=fun c=>(l.take (k+1)).contains c:=by
 funext c
 rw[Y6 h];have e:l.getD k 0=l[k]:=by simp[List.getD,h]
 rw[e];unfold upd;by_cases h1:c=l[k]
 ·rw[Wc h1,eq_comm,List.contains_iff_mem,X7,List.mem_singleton]
  exact .inr h1
 ·rw[V9 h1,Bool.eq_iff_iff,List.contains_iff_mem,List.contains_iff_mem,X7,List.mem_singleton]
  exact⟨.inl,fun h=>h.resolve_right h1⟩
theorem Rl{p b:Nat→Nat}{no:Nat→Bool}{ri at' k:Nat}(hk:k<26):(nU p b no ri at')[52+k]?=some (.bool (no k)):=by
 unfold nU;rw[aM _ vom];unfold Dw;rw[V9 vom,V9 vom,Wc vom,show 52+k-52=k by omega]
structure Se(w W:V8)(u:Nat→Int)(v:R2)(q:Nat)(A:Array R2):Prop where
 par:af W w.heap.size 154 (b6 u v)
 res:af W (w.heap.size+1) 169 (nU pO pO Co 0 0)
 out:af W q 169 A
 lt:w.heap.size+1<q
 below:Wh w.heap.size w W
theorem Al(p:Nat→Nat)(hp:Pm.aC p)(v:R2)(l:List Nat)(hl:∀k,k∈l→k<26)(ri st:Nat)(w:V8)(hv:aq w v l.length fun k=>(l.getD k 0:Nat)):WA qf 104 #[.agg (b6 (Pm.up p) v),.int .i64 (ri:Nat),.int .i64 (st:Nat)] w fun e w'=>e=.returned (.agg (nU p (Pm.inv p) (fun c=>l.contains c) ri st))∧Wh w.heap.size w w':=by
 have hr:=af.new w 154 (b6 (Pm.up p) v);have a:=Er (hr.alloc (.cells (nU pO pO Co 0 0) 169));have s:=bR IC;have u:=bR dG;have HV:Hid (aq w v l.length fun k=>(l.getD k 0:Nat)):=hv;have HL:Hid (∀k,k<l.length→l.getD k 0<26):=fun k hk=>hl _ (by rw[Xu,Wu hk];exact List.getElem_mem _);clear hl hv;have h1:af ((w.alloc (.cells (b6 (Pm.up p) v) 154)).alloc (.cells (nU pO pO Co 0 0) 169)) w.heap.size 154 (b6 (Pm.up p) v):=hr.alloc _
 have h2:af ((w.alloc (.cells (b6 (Pm.up p) v) 154)).alloc (.cells (nU pO pO Co 0 0) 169)) (w.heap.size+1) 169 (nU pO pO Co 0 0):=by
  have:=af.new (w.alloc (.cells (b6 (Pm.up p) v) 154)) 169 (nU pO pO Co 0 0);rw[WI]at this;exact this
 have j:Wh w.heap.size w ((w.alloc (.cells (b6 (Pm.up p) v) 154)).alloc (.cells (nU pO pO Co 0 0) 169)):=((Below.refl _ w).alloc (R3 _) _).alloc vsi _;go_enter Tryz.func104,Tryz.ntmps104
 go_upto_region 1 with fail
 clear hr;generalize (w.alloc (.cells (b6 (Pm.up p) v) 154)).alloc (.cells (nU pO pO Co 0 0) 169)=W0 at *
 go_wp2_with (first|refine aX rfl 33 _ rfl w.heap.size 0 rfl (ints 26 (Pm.up p)) _ a Wp rfl (by rw[ag];exact aj) ?_)
 refine(OQ p hp _).mono ?_;rintro e V ⟨rfl,hb⟩;have k1:=h1.below hb h1.lt;have k2:=h2.below hb h2.lt;have kb:=j.trans (hb.mono j.size);have kl:=k2.lt;clear hb h1 h2 j a
 go_upto_region 2 with(first|refine Wk rfl 33 _ _ rfl V.heap.size (ints 26 (Pm.up (Pm.inv p))) rfl rfl 33 _ (af.new V _ _) (by rw[ag];exact aj) (by simp only[ag]) (aI _ _) ?_)
 have j1:=(k1.alloc (.cells (ints 26 fun _=>0) 33)).bG V.heap.size (ints 26 (Pm.up (Pm.inv p))) vom;have j2:=(k2.alloc (.cells (ints 26 fun _=>0) 33)).bG V.heap.size (ints 26 (Pm.up (Pm.inv p))) vom;have j3:=(af.new V 33 (ints 26 fun _=>0)).row (ints 26 (Pm.up (Pm.inv p)));have jb:=Below.setRow (kb.alloc kb.size (.cells (ints 26 fun _=>0) 33)) V.heap.size kb.size (ints 26 (Pm.up (Pm.inv p)));generalize (V.alloc (.cells (ints 26 fun _=>0) 33)).setRow V.heap.size (ints 26 (Pm.up (Pm.inv p)))=U at *;obtain⟨q7,y⟩:∃q,q=V.heap.size:=⟨_,rfl⟩
 rw[←y]at j3 kl⊢;clear y k1 k2 kb u;have a:=Er j1;have jl:=j3.lt
 go_upto_region 3 with(first|refine fe rfl 169 [(0,.tmp 19),(1,.tmp 20),(3,.tmp 21),(4,.tmp 22)] rfl [(0,.agg (ints 26 (Pm.up p))),(1,.agg (ints 26 (Pm.up (Pm.inv p)))),(3,.int .i64 (ri:Nat)),(4,.int .i64 (st:Nat))] rfl _ (J9 p (Pm.inv p) ri st) ?_|refine aX rfl 33 _ rfl w.heap.size 0 rfl (ints 26 (Pm.up p)) _ a Wp rfl (by rw[ag];exact aj) ?_|refine Wn rfl 33 _ rfl q7 rfl 33 (ints 26 (Pm.up (Pm.inv p))) (0,0) _ j3 Wp rfl (by rw[ag];exact aj) ?_|refine Wk rfl 169 _ _ rfl U.heap.size (nU p (Pm.inv p) Co ri st) rfl rfl 169 _ (af.new U _ _) (by rw[jz];exact jC) (by simp only[jz]) (zi _ _ _ _ _) ?_)
 have hg:Se w ((U.alloc (.cells (nU pO pO Co 0 0) 169)).setRow U.heap.size (nU p (Pm.inv p) Co ri st)) (Pm.up p) v U.heap.size (nU p (Pm.inv p) Co ri st):=
  ⟨(j1.alloc _).bG _ _ vom,(j2.alloc _).bG _ _ vom,(af.new U _ _).row _,vom,Below.setRow (jb.alloc jb.size _) _ jb.size _⟩
 generalize (U.alloc (.cells (nU pO pO Co 0 0) 169)).setRow U.heap.size (nU p (Pm.inv p) Co ri st)=X at *;obtain⟨q,hq⟩:∃q,q=U.heap.size:=⟨_,rfl⟩
 rw[←hq]at hg⊢;clear hq j1 j2 j3 jb a s kl jl;have hvl:=hg.par.cell (jE (Pm.up p) v);obtain⟨av,cv,rfl,A,m⟩:=HV.out;have HC:Hid (∀c,c<l.length→∃b o,av=some ⟨b,o,none⟩∧w.cell? ⟨b,o+c,none⟩=some (.int .i64 (l.getD c 0:Nat))):=m;unfold maxLen at A;clear HV m
 go_wp2_with fail
 clear hvl;go_loopw [27] (fun i W=>∃k:Nat,k≤l.length∧i=.int .i64 (k:Nat)∧Se w W (Pm.up p) (.slice av l.length cv) q (nU p (Pm.inv p) (fun c=>(l.take k).contains c) ri st)) (fun i _=>((l.length:Int)-intOf i).toNat)
 case atStart=>exact⟨0,vom,rfl,hg⟩
 case round=>
  clear hg;obtain⟨k,hk,rfl,hg⟩:=hrel;by_cases hlt:k<l.length
  ·have n:Hid (k<l.length):=hlt
   obtain⟨b,o,rfl,h⟩:=HC.out k hlt;have D:=(hg.below.cell (p:=⟨b,o+k,none⟩) (aA h)).trans h;have hx:=HL.out k hlt;have HT:Hid _:=OC hlt;generalize l.getD k 0=x at *;have F:=hg.out.cell (Rl (p:=p) (b:=Pm.inv p) (no:=fun c=>(l.take k).contains c) (ri:=ri) (at':=st) hx);have E:=hg.out.frozen (52+x)
   have B:Hid (Se w (wr.setCell ⟨q,52+x,none⟩ (.bool true)) (Pm.up p) (.slice (some ⟨b,o,none⟩) l.length cv) q (nU p (Pm.inv p) (fun c=>(l.take (k+1)).contains c) ri st)):=by
    have H:=hg.lt;refine⟨hg.par.setOther _ _ (by show w.heap.size≠q;omega),hg.res.setOther _ _ (by show w.heap.size+1≠q;omega),?_,hg.lt,hg.below.setCell (p:=⟨q,52+x,none⟩) (by show w.heap.size≤q;omega) _⟩;have:=hg.out.set (52+x) (.bool true);rw[RH _ _ _ _ _ hx,HT.out]at this;exact this
   clear hg h HC;go_wp2;go_roundw
   case rel=>exact⟨k+1,n.out,by go_num,B.out⟩
   case measure=>have:=n.out;simp[intOf];omega
  ·obtain rfl:k=l.length:=vom
   have G:¬((l.length:Nat):Int)<((l.length:Nat):Int):=vom;have ho:=hg.out;rw[List.take_length]at ho;have g:=hg.res;have z:=hg.below;obtain⟨AA,d⟩:∃AA,AA=nU p (Pm.inv p) (fun c=>l.contains c) ri st:=⟨_,rfl⟩
   have f:AA.size=80:=by rw[d,jz]
   have t:AA.all (·.oneCell')=true:=by rw[d];exact zi _ _ _ _ _
   rw[←d]at ho;have C:Hid _:=d;clear hg HC d
   go_wp2_with (first|refine Wn rfl 169 _ rfl q rfl 169 AA (0,0) _ ho Tryz.underlying169 rfl (by rw[f];exact jC) ?_|refine Wk rfl 169 _ _ rfl (w.heap.size+1) AA rfl rfl 169 _ g (by rw[f];exact jC) (by simp only[jz,f]) t ?_)
   exact WL (v:=.agg AA) (j4 Tryz.results104 _ _ _ _ _ _ _ rfl (g.row _) Tryz.underlying169 rfl (by rw[f];exact jC)) rfl ⟨by rw[C.out];simp only[List.contains_eq_mem],Below.setRow z _ (Nat.le_succ _) _⟩
end
end Go.Proofs.YtpcnpkhgjanamaaGreatDoor
