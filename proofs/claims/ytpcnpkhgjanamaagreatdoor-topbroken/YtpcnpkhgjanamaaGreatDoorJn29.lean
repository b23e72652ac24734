import Derived.Test.YtpcnpkhgjanamaaGreatDoorPz
import Derived.Test.YtpcnpkhgjanamaaGreatDoorJn28
import Derived.Test.YtpcnpkhgjanamaaGreatDoorScIe
namespace Go.Proofs.YtpcnpkhgjanamaaGreatDoor
open Go.Proofs.Tryz renaming prog→qf,underlying33→Wp,underlying35→WH
open Go renaming Value→R2,World→V8,TypeId→Wj,Calls→WA
open Go.RowKit renaming Below→Wh
open Go.World.ownsRow renaming lt→WC,alloc→Xp
open _root_.List renaming range→WO
set_option maxRecDepth 100000
set_option maxHeartbeats 4000000
section
open Go.RowKit PK Vg
theorem Ll{l:List UInt8}(h:Ls l):Jo 0 l=l:=by
 unfold Jo
 conv=>rhs;rw[←List.map_id l]
 refine List.map_congr_left fun c hc=>?_;unfold MX;have:=oJ (h c hc);rw[Nat.add_zero,Nat.mod_eq_of_lt this,Og (h c hc)]
 rfl
theorem NB:rE 2 (oN [AS,OW 0]) [65,65,65]=0∧∃x y z,rS 2 (oN [AS,OW 0]) [65,65,65]=[x,y,z]∧x≠65:=by
 have h:rE 2 (oN [AS,OW 0]) [65,65,65]=0:=vkr;refine⟨h,?_⟩
 have hL:Ls [65,65,65]:=fun c hc=>by
  simp at hc;subst hc
  decide
 have a:=(fq (o5 Qs rfl)).1
 have h1:rS 2 (oN [AS,OW 0]) [65,65,65]=Om.wr (bZ AS.g) (bZ AS.g).st [65,65,65]:=by
  unfold rS;rw[Wc h];show one (OW 0) (one AS [65,65,65])=_;rw[EE (s:=AS) rfl,Km (s:=OW 0) rfl];exact Ll (Om.EL a _ hL)
 have h2:=Om.gh (bZ AS.g) [65,65,65] (bZ AS.g).st;have h3:=Om.PX a (bZ AS.g).st hL 0 vde;rw[h1];generalize Om.wr (bZ AS.g) (bZ AS.g).st [65,65,65]=S at *
 match S,h2,h3 with
 |[x,y,z],_,h3=>exact⟨x,y,z,rfl,h3⟩
theorem zv(w:V8)(hn:kW w)(he:ia w):WA qf 4 #[] w fun e w'=>e=.returned (.bool true)∧Wh w.heap.size w w':=by
 have HR:Hid _:=vz ⟨#[114,111,116,111,114,32,73,32,66,32,65,32,65,32,124,32,109,111,118,101,32,48]⟩ w hn he;clear hn he;obtain⟨r1,x,y,z,r2,hx⟩:=NB;go_enter Tryz.func4,Tryz.ntmps4
 go_wp2_with fail
 refine We HR.out ?_;rintro e V ⟨m,hb⟩;rw[D1]at m;obtain⟨v,rfl,k⟩:=m;obtain⟨a,cap,R,rfl,-⟩:=id k;obtain⟨V2,d⟩:∃V2,V2=V.alloc (.cells #[.int .i64 0,.int .i64 0] 26):=⟨_,rfl⟩
 have g:Wh V.heap.size V V2:=by rw[d];exact(Below.refl _ V).alloc (R3 _) _
 have f:af V2 V.heap.size 26 #[.int .i64 0,.int .i64 0]:=by rw[d];exact af.new V _ _
 have c:Hid _:=Ty _ 2 (oN [AS,OW 0]) ⟨#[65,65,65]⟩ V2 (k.below g) r1 (fun i hi=>by
  match i,hi with
  |0,_=>exact .inr rfl
  |1,_=>exact .inl rfl)
 change Hid (WA qf 6 _ _ fun e w'=>e=.returned (.tuple #[.string ⟨(rS 2 (oN [AS,OW 0]) [65,65,65]).toArray⟩,iR 0 0])∧_)at c
 rw[r2]at c;have h:Hid (Wh w.heap.size w V2):=hb.trans (g.mono hb.size);have j:Hid _:=f;have l:Hid (w.heap.size≤V.heap.size):=hb.size;have c0:=af.cell f (i:=0) rfl;have o:((x.toNat:Int)==65)=false:=XR (fun e=>hx (by apply UInt8.toNat_inj.1;show x.toNat=65;omega));clear HR hb g k f r1 r2 hx;unfold iR
 go_upto_region 2 with fail
 rw[←d];clear d
 go_wp2_with fail
 refine We c.out ?_;rintro e V3 ⟨rfl,hb⟩;have b:=af.below j.out hb (af.lt j.out);have c3:=af.cell b (i:=0) rfl;have c4:=af.cell b (i:=1) rfl;have f3:=af.frozen b 0;have f4:=af.frozen b 1;have n:Hid (Wh w.heap.size w ((V3.setCell ⟨V.heap.size,0,none⟩ (.int .i64 0)).setCell ⟨V.heap.size,1,none⟩ (.int .i64 0))):=((h.out.trans (hb.mono h.out.size)).setCell (p:=⟨V.heap.size,0,none⟩) l.out _).setCell (p:=⟨V.heap.size,1,none⟩) l.out _;clear b hb c c0 j h;unfold iR;go_wp2;go_ret;refine⟨?_,n.out⟩;show Ending.returned (.bool ((x.toNat:Int) != 65))=_;rw[show((x.toNat:Int) != 65)=true by simp only[bne,o,Bool.not_false]]
theorem Fi(b:Nat)(M:Om.Ma)(at':Nat→Nat)(w:V8)(h:bP w b M at'):WA qf 62 #[.pointer (some ⟨b,0,none⟩)] w fun e w'=>e=.returned (.agg (ints 26 (Pm.up (Om.now M at'))))∧Wh w.heap.size w w':=by
 have d:=bR dG;have h0:=rJ.new w;have HR:Hid (bP w b M at'):=h;clear h;go_enter Tryz.func62,Tryz.ntmps62
 go_wp2_with fail
 clear d;go_loopw [5] (fun i V=>∃k:Nat,k≤26∧i=.int .i64 (k:Nat)∧rJ w V fun c=>if c<k then((Om.now M at' c:Nat):Int)else 0) (fun i _=>((26:Int)-intOf i).toNat)
 case atStart=>exact⟨0,vom,rfl,by simpa using h0⟩
 case round=>
  clear h0;obtain⟨k,hk,rfl,hg⟩:=hrel;by_cases hlt:k<26
  ·have a:Hid (k<26):=hlt
   have HG:Hid _:=hg;clear hg
   go_wp2_with fail
   refine(sE b M at' k a.out _ (HR.out.below HG.out.below)).mono ?_;rintro e V ⟨rfl,hb⟩;have hg:rJ w V fun c=>if c<k then((Om.now M at' c:Nat):Int)else 0:=⟨HG.out.r.below hb HG.out.r.lt,HG.out.o.below hb HG.out.o.lt,HG.out.below.trans (hb.mono HG.out.below.size)⟩
   have f:Hid (rJ w (V.setCell ⟨w.heap.size+1,k,none⟩ (.int .i64 (Om.now M at' k:Nat))) fun c=>if c<k+1 then((Om.now M at' c:Nat):Int)else 0):=by
    have:=hg.set k (Om.now M at' k:Nat)
    have e:upd (fun c=>if c<k then((Om.now M at' c:Nat):Int)else 0) k (Om.now M at' k:Nat)=fun c=>if c<k+1 then((Om.now M at' c:Nat):Int)else 0:=by
     funext i
     unfold upd;by_cases e:i=k
     ·rw[Wc e,Wc vom,e]
     ·rw[V9 e]
      show(if i<k then((Om.now M at' i:Nat):Int)else 0)=_;by_cases e2:i<k
      ·rw[Wc e2,Wc vom]
      ·rw[V9 e2,V9 vom]
    rw[e]at this;exact this
   have l:=hg.o.cell (aB (fun c=>if c<k then((Om.now M at' c:Nat):Int)else 0) hlt);have m:=hg.o.frozen k;clear hg hb HG;generalize Om.now M at' k=A at *;go_wp2;go_roundw
   case rel=>exact⟨k+1,a.out,by go_num,f.out⟩
   case measure=>have:=a.out;simp[intOf];omega
  ·obtain rfl:k=26:=vom
   have hr:=hg.r
   have ho:af wr (w.heap.size+1) 33 (ints 26 (Pm.up (Om.now M at'))):=by
    have:=hg.o;rw[b8 (g:=Pm.up (Om.now M at')) fun i hi=>by rw[Wc hi];rfl]at this;exact this
   have j:=hg.below;clear hg
   go_wp2_with (first|refine Wn rfl 33 _ rfl (w.heap.size+1) rfl 33 (ints 26 (Pm.up (Om.now M at'))) (0,0) _ ho Wp rfl (by rw[ag];exact aj) ?_|refine Wk rfl 33 _ _ rfl w.heap.size (ints 26 (Pm.up (Om.now M at'))) rfl rfl 33 _ hr (by rw[ag];exact aj) (by simp only[ag]) (aI _ _) ?_)
   exact WL (v:=.agg (ints 26 (Pm.up (Om.now M at')))) (j4 Tryz.results62 _ _ _ _ _ _ _ rfl (hr.row _) Wp rfl (by rw[ag];exact aj)) rfl ⟨rfl,Below.setRow j _ (R3 _) _⟩
end
section
open Go.RowKit PK
section
variable{P:Program}{md:Region.Mode}{ops:Array Oper}{Q:Exit→Act→V8→Prop}{S:V8→Prop}
theorem yN{fuel:Nat}{listed:Array Bool}{a:Act}{w:V8}(i:Nat)(o:Oper)(hr:Region.ready md ops listed=[i])(ho:ops[i]?=some o)(hw:Region.wanted o (yielded ops a.tmps)=true)
  (ty:Wj) (x y:Operand) (hop:o.op=.store ty x y) (g:Nat) (cells:Array R2) (hx:a.eval x=.pointer (some ⟨g,0,none⟩)) (hy:a.eval y=.agg cells) (t:Wj) (old:Array R2) (hg:af w g t old)
  (hi:(P.info? ty).map (·.size)=some cells.size) (hs:old.size=cells.size) (h1:cells.all (·.oneCell')=true) (hdst:o.dst=none)
  (hS:S (w.setRow g cells)) (h:S (w.setRow g cells)→wpAnyH P md ops Q S fuel (listed.setIfInBounds i true) a (w.setRow g cells)):wpAnyH P md ops Q S (fuel+1) listed a w:=by
 refine wpAnyH_ready hr vsi (AllReadyH.cons ho (fun K hK=>?_) AllReadyH.nil);rw[Wc hw];refine wp_store_row ty x y hop g cells hx hy t old hg hi hs h1 ?_;have hp:a.put o.dst undef=a:=by rw[hdst];rfl
 rw[hp];exact hK.out _ _ hS h
end
end
section
open Go.RowKit PK Vg
def eW(P:Nat→Nat→Nat)(k:Nat):Nat→Int:=fun i=>if i<k*26 then flat P i else 0
theorem lT(P:Nat→Nat→Nat)(n:Nat):ints n (eW P 0)=ints n fun _=>0:=b8 fun i _=>by
 unfold eW;rw[V9 vom]
theorem vU(P:Nat→Nat→Nat)(n:Nat){N:Nat}(hN:N=n*26):ints N (eW P n)=ints N (flat P):=b8 fun i hi=>by
 unfold eW;rw[Wc vom]
theorem um(P:Nat→Nat→Nat){n k N:Nat}(hN:N=n*26)(hk:k<n):c7 (ints N (eW P k)) (k*26) (ints 26 (Pm.up (P k))).toList=ints N (eW P (k+1)):=by
 have hl:(ints 26 (Pm.up (P k))).toList.length=26:=by rw[Wx,ag]
 apply Xc;intro i;rw[dU _ _ _ _ (by rw[hl,ag];omega),hl];by_cases h:k*26≤i∧i<k*26+26
 ·rw[Wc h,Wo,aB _ vom,aB _ vom]
  unfold eW flat Pm.up;rw[Wc vom,show i / 26=k by omega,show i % 26=i-k*26 by omega]
 ·rw[V9 h]
  by_cases h2:i<N
  ·rw[aB _ h2,aB _ h2]
   unfold eW;by_cases h3:i<k*26
   ·rw[Wc h3,Wc vom]
   ·rw[V9 h3,V9 vom]
  ·rw[Wv (by rw[ag];omega),Wv (by rw[ag];omega)]
theorem Gc{W:V8}{g:Nat}{T:Wj}{P:Nat→Nat→Nat}{n k j N:Nat}(hN:N=n*26)(h:af W g T (ints N (eW P k)))(hj:j<k)(hk:k≤n):W.rangeAt g (j*26) (ints 26 (Pm.up (P j))).toList:=ja h _ _ fun i v hv=>by
 obtain⟨h1,rfl⟩:=oZ hv;rw[aB _ vom];unfold eW flat Pm.up;rw[Wc vom,show(j*26+i) / 26=j by omega,show(j*26+i) % 26=i by omega]
theorem dD:(qf.info? 76).map (·.size)=some 78:=vkr
theorem fW:(qf.info? 76).map (·.zero)=some (some (.agg (ints 78 fun _=>0))):=vkr
theorem BX:qf.built 76 []=some (ints 78 fun _=>0):=vkr
theorem Dx:(qf.info? 121).map (·.zero)=some (some (.agg (ints 156 fun _=>0))):=vkr
def eA(M:Om.Ma)(k:Nat):Nat→Nat:=Om.now M (Om.steps M M.st (k+1))
def qz(M:Om.Ma)(k:Nat):Nat→Nat:=fun i=>eA M (k+3) (eA M k i)
structure iA(w W:V8)(a b c:R2)(rf pl:Nat→Int):Prop where
 mg:cU w W a b c rf pl
 res:af W (w.heap.size+1) 76 (ints 78 fun _=>0)
theorem iA.new(w:V8)(a b c:R2)(rf pl:Nat→Int):iA w ((w.alloc (.cells (aP a b c rf pl) 35)).alloc (.cells (ints 78 fun _=>0) 76)) a b c rf pl:=by
 have h:=af.new (w.alloc (.cells (aP a b c rf pl) 35)) 76 (ints 78 fun _=>0);rw[WI]at h;exact⟨(cU.new w a b c rf pl).alloc _,h⟩
section
variable{w W W':V8}{a b c:R2}{rf pl:Nat→Int}
theorem iA.step(h:iA w W a b c rf pl)(hb:Wh W.heap.size W W'):iA w W' a b c rf pl:=⟨h.mg.step hb,h.res.below hb h.res.lt⟩
theorem iA.alloc(h:iA w W a b c rf pl)(o:Obj):iA w (W.alloc o) a b c rf pl:=h.step ((Below.refl _ _).alloc (R3 _) o)
theorem iA.drew(h:iA w W a b c rf pl):iA w W.drew a b c rf pl:=⟨h.mg.drew,h.res⟩
theorem iA.lay(h:iA w W a b c rf pl)(g o:Nat)(hg:w.heap.size+1<g)(l:List R2):iA w (W.setCells g o l) a b c rf pl:=⟨⟨aW vom h.mg.row,cT vom h.mg.below⟩,aW vom h.res⟩
theorem iA.grown(h:iA w W a b c rf pl){r:Option Nat}(hg:W.grownBy W' r)(hr:∀k,r=some k→w.heap.size+1<k):iA w W' a b c rf pl:=by
 have h1:=h.mg.row.lt;have h2:=h.res.lt;have d:∀k,k≤w.heap.size+1→some k≠r:=fun k hk e=>by have:=hr k e.symm;omega
 refine⟨⟨(hg.block _ h1 (d _ vom)).trans h.mg.row,?_⟩,(hg.block _ h2 (d _ vom)).trans h.res⟩;exact h.mg.below.grown hg vom (fun k hk=>by have:=hr k hk;omega)
theorem iA.load(h:iA w W a b c rf pl):W.heap[w.heap.size]?=some (.cells (aP a b c rf pl) 35 (0,0)):=h.mg.row
end
structure Uv(w W:V8)(a b c:R2)(rf pl:Nat→Int)(M:Om.Ma)(q q6 k:Nat):Prop where
 z:iA w W a b c rf pl
 pQ:bP W q M (Om.steps M M.st k)
 keys:af W q6 121 (ints 156 (eW (eA M) k))
 q1:w.heap.size+1<q
 q2:q<q6
structure IB(w W:V8)(a b c:R2)(rf pl:Nat→Int)(M:Om.Ma)(q6 q8 k:Nat):Prop where
 z:iA w W a b c rf pl
 keys:af W q6 121 (ints 156 (eW (eA M) 6))
 out:af W q8 76 (ints 78 (eW (qz M) k))
 q1:w.heap.size+1<q6
 q2:q6<q8
section
variable{w W W':V8}{a b c:R2}{rf pl:Nat→Int}{M:Om.Ma}{q6 q8 k:Nat}
theorem IB.step(h:IB w W a b c rf pl M q6 q8 k)(hb:Wh W.heap.size W W'):IB w W' a b c rf pl M q6 q8 k:=⟨h.z.step hb,h.keys.below hb h.keys.lt,h.out.below hb h.out.lt,h.q1,h.q2⟩
theorem IB.drew(h:IB w W a b c rf pl M q6 q8 k):IB w W.drew a b c rf pl M q6 q8 k:=⟨h.z.drew,h.keys,h.out,h.q1,h.q2⟩
theorem IB.lay(h:IB w W a b c rf pl M q6 q8 k)(hk:k<3):IB w (W.setCells q8 (k*26) (ints 26 (Pm.up (qz M k))).toList) a b c rf pl M q6 q8 (k+1):=by
 have h1:=h.q1;have h2:=h.q2;refine⟨h.z.lay q8 _ vom _,aW vom h.keys,?_,h.q1,h.q2⟩;have:=c6 (o:=k*26) (l:=(ints 26 (Pm.up (qz M k))).toList) h.out;rw[um (n:=3) _ rfl hk]at this;exact this
end
theorem GK(a b c:R2)(rf pl:Nat→Int)(E:Int)(hE:(E != 0)=true)(w:V8)(HW:Hid (∀W,Wh w.heap.size w W→WA qf 60 #[.agg (aP a b c rf pl)] W fun e w'=>e=.returned (.tuple #[.pointer none,.int .i64 E])∧Wh W.heap.size W w')):WA qf 31 #[.agg (aP a b c rf pl)] w fun e w'=>e=.returned (.tuple #[.agg (ints 78 fun _=>0),.int .i64 E])∧Wh w.heap.size w w':=by
 have h0:=iA.new w a b c rf pl;have d:=bR fW;go_enter Tryz.func31,Tryz.ntmps31
 go_wp2_with (first|refine Wn rfl 35 _ rfl w.heap.size rfl 35 (aP a b c rf pl) (0,0) _ h0.load WH rfl (by rw[aD];exact aE) ?_)
 refine(HW.out _ h0.mg.below).mono ?_;rintro e W1 ⟨rfl,hb⟩;have h1:=h0.step hb;clear hb h0 HW d
 go_wp2_with (first|refine cS rfl 76 rfl (ints 78 fun _=>0) BX ?_|refine Wk rfl 76 _ _ rfl (w.heap.size+1) (ints 78 fun _=>0) rfl rfl 76 _ h1.res (by rw[ag];exact dD) (by simp only[ag]) (aI _ _) ?_)
 exact WL (v:=.tuple #[.agg (ints 78 fun _=>0),.int .i64 E]) (aF rfl _ _ (w.heap.size+1) 76 _ (0,0) _ _ rfl rfl (h1.res.row _) Tryz.underlying76 rfl (by rw[ag];exact dD)) rfl ⟨rfl,Below.setRow h1.mg.below _ vom _⟩
theorem JM(M:Om.Ma)(hM:Om.Ok M)(a b c:R2)(rf pl:Nat→Int)(w:V8)(HW:Hid (∀W,Wh w.heap.size w W→WA qf 60 #[.agg (aP a b c rf pl)] W fun e w'=>∃q,e=.returned (.tuple #[.pointer (some ⟨q,0,none⟩),.int .i64 0])∧W.heap.size≤q∧bP w' q M M.st∧Wh W.heap.size W w')):WA qf 31 #[.agg (aP a b c rf pl)] w fun e w'=>e=.returned (.tuple #[.agg (ints 78 (flat (qz M))),.int .i64 0])∧Wh w.heap.size w w':=by
 have h0:=iA.new w a b c rf pl;have s:=bR fW;have G:Hid (∀k,Pm.aC (eA M k)):=fun k=>Om.eM hM _;clear hM;go_enter Tryz.func31,Tryz.ntmps31
 go_wp2_with (first|refine Wn rfl 35 _ rfl w.heap.size rfl 35 (aP a b c rf pl) (0,0) _ h0.load WH rfl (by rw[aD];exact aE) ?_)
 refine(HW.out _ h0.mg.below).mono ?_;rintro e W1 ⟨q,rfl,hq,m,hb⟩;have h1:=h0.step hb;have g:w.heap.size+1<q:=by have:=h0.res.lt;omega
 clear hb h0 HW hq s;have D:=bR Dx
 go_upto_region 5 with fail
 have e7:=m.row.lt;have f:Uv w (W1.alloc (.cells (ints 156 fun _=>0) 121)) a b c rf pl M q W1.heap.size 0:=⟨h1.alloc _,m.alloc _,by rw[lT];exact af.new W1 _ _,g,e7⟩
 generalize W1.alloc (.cells (ints 156 fun _=>0) 121)=V at *;obtain⟨q6,e3⟩:∃x,x=W1.heap.size:=⟨_,rfl⟩
 rw[←e3]at f⊢;clear e3 D h1 m g e7
 go_wp2_with fail
 go_loopw [19] (fun i W=>∃k:Nat,k≤6∧i=.int .i64 (k:Nat)∧Uv w W a b c rf pl M q q6 k) (fun i _=>((6:Int)-intOf i).toNat)
 case atStart=>exact⟨0,vom,rfl,f⟩
 case round=>
  clear f;obtain⟨k,hk,rfl,hg⟩:=hrel;by_cases hlt:k<6
  ·have d:Hid (k<6):=hlt
   have L:(k:Int)<6:=vom;have N:Hid (Om.step M (Om.steps M M.st k)=Om.steps M M.st (k+1)):=rfl
   go_wp2_with fail
   refine(vV q M _ _ hg.pQ).mono ?_;rintro e W3 ⟨rfl,hr,H⟩;rw[N.out]at hr;have Z:=hg.z.grown H (fun k hk=>by cases hk;exact hg.q1);have E:af W3 q6 121 (ints 156 (eW (eA M) k)):=(H.block _ hg.keys.lt (fun e=>by have:=hg.q2;cases e;omega)).trans hg.keys;have g:=hg.q1;have y:=hg.q2;clear hg H
   go_wp2_with fail
   refine(Fi q M _ _ hr).mono ?_;rintro e W4 ⟨rfl,hb⟩;have O:=Z.step hb;have F:=E.below hb E.lt;have B:=hr.below hb;clear hb Z E hr;obtain⟨AW,t⟩:∃AW,AW=ints 26 (Pm.up (Om.now M (Om.steps M M.st (k+1)))):=⟨_,rfl⟩
   have T:Hid (AW.size=26):=by rw[Hid,t,ag]
   have j3:Hid (AW.all (·.oneCell')=true):=by rw[Hid,t];exact aI _ _
   rw[←t];have e9:Hid (W4.there q6 (k*26) 26):=ij (o:=k*26) (n:=26) F (by rw[ag];omega)
   have HN:Hid (Uv w (W4.setCells q6 (k*26) AW.toList) a b c rf pl M q q6 (k+1)):=by
    rw[t];refine⟨O.lay q6 _ vom _,⟨aW vom B.row,B.ok,B.ins⟩,?_,g,y⟩;have:=c6 (o:=k*26) (l:=(ints 26 (Pm.up (eA M k))).toList) F;rw[um (n:=6) _ rfl d.out]at this;exact this
   clear O F B g y t G
   go_wp2_with (first|refine ZG rfl 33 _ _ rfl q6 (k*26) AW rfl rfl (by rw[T.out];exact e9.out) (by rw[T.out];exact aj) j3.out ?_)
   go_roundw
   case rel=>exact⟨k+1,d.out,by go_num,HN.out⟩
   case measure=>have:=d.out;simp[intOf];omega
  ·obtain rfl:k=6:=vom
   have g:=hg.q1;have y:=hg.q2;have s:=bR fW;have e8:=hg.keys.lt
   go_upto_region 12 with fail
   have f:IB w (wr.alloc (.cells (ints 78 fun _=>0) 76)) a b c rf pl M q6 wr.heap.size 0:=⟨hg.z.alloc _,hg.keys.alloc _,by rw[lT];exact af.new wr _ _,vom,e8⟩
   generalize wr.alloc (.cells (ints 78 fun _=>0) 76)=V2 at *;obtain⟨q8,b9⟩:∃x,x=wr.heap.size:=⟨_,rfl⟩
   rw[←b9]at f⊢;clear b9 s hg g y e8 hlt
   go_wp2_with fail
   go_loopw [29] (fun i W=>∃k:Nat,k≤3∧i=.int .i64 (k:Nat)∧IB w W a b c rf pl M q6 q8 k) (fun i _=>((3:Int)-intOf i).toNat)
   case atStart=>exact⟨0,vom,rfl,f⟩
   case round=>
    clear f;obtain⟨k,hk,rfl,hg⟩:=hrel;by_cases hlt:k<3
    ·have d:Hid (k<3):=hlt
     have L:(k:Int)<3:=vom
     go_upto_region 15 with fail
     have A:=hg.drew;have e5:∃j,(j=k∨j=k+1)∧IB w wr.drew a b c rf pl M q6 q8 j:=⟨k,.inl rfl,A⟩
     clear hg;refine Xb ?_;refine Wz (S:=fun W=>∃j,(j=k∨j=k+1)∧IB w W a b c rf pl M q6 q8 j) vkr e5 (fun hS=>?_);clear e5;obtain⟨U,hU⟩:∃x,x=wr.drew:=⟨_,rfl⟩
     rw[←hU]at hS A⊢;clear hU;refine vuq 0 33 (.int .i64 (k:Nat)) ?_;refine vuq 1 34 (.int .i64 (k:Nat)) ?_;refine vuk 2 35 (.pointer (some ⟨q6,k*26,none⟩)) rfl (fun W hW=>by have u1:¬(6:Int)≤(k:Int):=(by have:=d.out;omega);clear hS hW;go_simp) hS ?_;refine vuk 3 36 (.agg (ints 26 (Pm.up (eA M k)))) rfl (fun W hW=>by obtain⟨_,_,hW⟩:=hW;have u:=run_loadAt_mid (P:=qf) W q6 (k*26) 33 (ints 26 (Pm.up (eA M (k)))).toList _ (Gc (n:=6) rfl hW.keys (by have:=d.out;omega) (R3 _)) Wp rfl (by rw[Wx,ag];exact aj);clear hS hW;simp[execOp,Act.eval,u]) hS ?_;refine vuq 4 37 (.int .i64 (k:Nat)) ?_;refine vuk 5 38 (.int .i64 ((k:Int)+3)) rfl (fun W hW=>by have u1:(k:Int)<3:=(by have:=d.out;omega);clear hS hW;go_simp;rw[IntKind.wrap_i64];omega) hS ?_;refine vuk 6 39 (.pointer (some ⟨q6,(k+3)*26,none⟩)) rfl (fun W hW=>by have u1:¬(6:Int)≤(k:Int)+3:=(by have:=d.out;omega);have u2:((k:Int)+3).toNat=k+3:=vom;have u3:¬(k:Int)+3<0:=vom;clear hS hW;go_simp;try(intro h;omega)) hS ?_;refine vuk 7 40 (.agg (ints 26 (Pm.up (eA M (k+3))))) rfl (fun W hW=>by obtain⟨_,_,hW⟩:=hW;have u:=run_loadAt_mid (P:=qf) W q6 ((k+3)*26) 33 (ints 26 (Pm.up (eA M (k+3)))).toList _ (Gc (n:=6) rfl hW.keys (by have:=d.out;omega) (R3 _)) Wp rfl (by rw[Wx,ag];exact aj);clear hS hW;simp[execOp,Act.eval,u]) hS ?_;refine rd1 8 rfl (fun K hK=>?_);go_simp;refine We (then_ok (eA M k) (eA M (k+3)) (G.out k) (G.out (k+3)) _) ?_;rintro e Y ⟨rfl,Q⟩;have I:=A.step Q;refine hK.out _ _ (by obtain⟨j,hj,h⟩:=hS;exact⟨j,hj,h.step Q⟩) (fun hS1=>?_);clear hK hS K;have hS:=hS1;clear hS1;refine vuk 9 32 (.tuple #[.agg (ints 26 (Pm.up (qz M k))),.int .i64 0]) rfl (fun W hW=>by clear hS hW;go_simp;rfl) hS ?_;refine vuq 10 42 (.agg (ints 26 (Pm.up (qz M k)))) ?_;refine vuq 11 43 (.int .i64 0) ?_;refine vuk 12 44 (.pointer (some ⟨q8,k*26,none⟩)) rfl (fun W hW=>by have u1:¬(3:Int)≤(k:Int):=(by have:=d.out;omega);clear hS hW;go_simp) hS ?_;refine rd1 13 rfl (fun K hK=>?_);have e6:=ij (o:=k*26) (n:=26) I.out (by rw[ag];have:=d.out;omega);have C:=I.lay d.out;refine wp_store_mid 33 _ _ rfl q8 (k*26) (ints 26 (Pm.up (qz M k))) rfl rfl (by rw[ag];exact e6) (by rw[ag];exact aj) (aI _ _) ?_;refine hK.out _ _ ⟨k+1,.inr rfl,C⟩ (fun _=>?_);clear hK K hS e6 I A;refine Xq vkr ?_ _;refine WU ?_;have k3:Hid _:=C;clear C
     go_wp2_with fail
     go_roundw
     case rel=>exact⟨_,_,_,_,_,_,_,_,_,_,_,_,_,_,_,_,_,_,⟨k+1,d.out,by go_num,k3.out⟩,rfl⟩
     case measure=>have:=d.out;simp[intOf];omega
    ·obtain rfl:k=3:=vom
     have J:=hg.out;rw[vU _ 3 rfl]at J;have e4:=hg.z.res;have j0:=hg.z.mg.below;clear hg hlt
     go_wp2_with (first|refine Wn rfl 76 _ rfl q8 rfl 76 (ints 78 (flat (qz M))) (0,0) _ J Tryz.underlying76 rfl (by rw[ag];exact dD) ?_|refine Wk rfl 76 _ _ rfl (w.heap.size+1) (ints 78 (flat (qz M))) rfl rfl 76 _ e4 (by rw[ag];exact dD) (by simp only[ag]) (aI _ _) ?_)
     exact WL (v:=.tuple #[.agg (ints 78 (flat (qz M))),.int .i64 0]) (aF rfl _ _ (w.heap.size+1) 76 _ (0,0) _ _ rfl rfl (e4.row _) Tryz.underlying76 rfl (by rw[ag];exact dD)) rfl ⟨rfl,Below.setRow j0 _ vom _⟩
def R7(g:Gm):Array R2:=if gE g=0 then ints 78 (flat (qz (bZ g)))else ints 78 fun _=>0
theorem Gq(vm:R2)(g:Gm)(w:V8)(hm:cL w vm g):WA qf 31 #[vm] w fun e w'=>e=.returned (.tuple #[.agg (R7 g),.int .i64 (gE g)])∧Wh w.heap.size w w':=by
 have HN:=fun W (hb:Wh w.heap.size w W)=>yP vm g W (hm.below hb);obtain⟨a,b,c,rfl,_⟩:=hm;unfold R7;by_cases hg:gE g=0
 ·obtain⟨hM,_⟩:=fq hg
  rw[Wc hg,hg]
  exact JM _ hM a b c g.rf g.pl w (fun W hb=>(HN W hb).mono (by
   rintro e w' (⟨h1,_⟩|⟨_,h2⟩)
   ·exact absurd hg h1
   ·exact h2))
 ·rw[V9 hg]
  exact GK a b c g.rf g.pl _ (by simpa using hg) w (fun W hb=>(HN W hb).mono (by
   rintro e w' (⟨_,h2⟩|⟨h1,_⟩)
   ·exact h2
   ·exact absurd h1 hg))
end
namespace Pm
def iter(p:Nat→Nat):Nat→Nat→Nat
 |0,i=>i
 |k+1,i=>p (iter p k i)
theorem gA{p:Nat→Nat}(hp:aC p)(i:Nat)(hi:i<26):∀k,iter p k i<26
 |0=>hi
 |k+1=>hp.lt _ (gA hp i hi k)
theorem jK(p:Nat→Nat)(i:Nat):∀a b,iter p (a+b) i=iter p a (iter p b i)
 |0,b=>by rw[WN];rfl
 |a+1,b=>by
  rw[Nat.add_right_comm];show p (iter p (a+b) i)=p (iter p a (iter p b i));rw[jK p i a b]
theorem BA{p:Nat→Nat}(hp:aC p)(i j:Nat)(hi:i<26)(hj:j<26):∀k,iter p k i=iter p k j→i=j
 |0,h=>h
 |k+1,h=>BA hp i j hi hj k (hp.inj _ _ (gA hp i hi k) (gA hp j hj k) h)
theorem mF{p:Nat→Nat}(hp:aC p)(i:Nat)(hi:i<26)(a b:Nat)(hab:a≤b)(h:iter p a i=iter p b i):iter p (b-a) i=i:=by
 have h1:iter p b i=iter p a (iter p (b-a) i):=by rw[←jK];congr 1;omega
 rw[h1]at h;exact(BA hp i _ hi (gA hp i hi _) a h).symm
theorem zT{p:Nat→Nat}(hp:aC p)(i:Nat)(hi:i<26):∃n,0<n∧n≤26∧iter p n i=i:=by
 apply XB;intro hn
 have h1:=ir (fun k=>iter p k i) (WO 27) Yt (fun a ha b hb e=>by
  simp at ha hb;apply XB;intro hne;rcases ZA a b with c|c
  ·exact hn ⟨b-a,vom,vom,mF hp i hi a b vom e⟩
  ·exact hn ⟨a-b,vom,vom,mF hp i hi b a vom e.symm⟩)
 have h2:=dP _ (WO 26) h1 (fun x hx=>by
  obtain⟨k,_,e⟩:=Yh.1 hx;rw[←e];simpa using gA hp i hi k)
 simp at h2
def len(p:Nat→Nat)(i:Nat):Nat:=((WO 27).find? fun n=>decide (0<n)&&iter p n i==i).getD 0
theorem find_range(q:Nat→Bool):∀n x,(WO n).find? q=some x→∀j,j<x→q j=false:=by
 intro n
 induction n with
 |zero=>intro x h;simp at h
 |succ n ih=>
  intro x h j hj;rw[ZI,List.find?_append]at h;cases h1:(WO n).find? q with
  |some y=>
   rw[h1]at h;simp at h;exact ih x (by rw[h1,h]) j hj
  |none=>
   rw[h1]at h;simp at h;have:=List.find?_eq_none.1 h1 j vso;simpa using this
structure Cg(p:Nat→Nat)(i n:Nat):Prop where
 pos:0<n
 le:n≤26
 ret:iter p n i=i
 min:∀j,0<j→j<n→iter p j i≠i
theorem mj{p:Nat→Nat}(hp:aC p)(i:Nat)(hi:i<26):Cg p i (len p i):=by
 unfold len;cases h:(WO 27).find? fun n=>decide (0<n)&&iter p n i==i with
 |none=>
  obtain⟨n,h0,h1,h2⟩:=zT hp i hi;have:=List.find?_eq_none.1 h n vso;simp[h2]at this;omega
 |some n=>
  have h1:=List.find?_some h;have h2:=List.mem_of_find?_eq_some h;have h3:=find_range _ _ _ h;simp at h1 h2;refine⟨h1.1,vso,h1.2,fun j hj hjn e=>?_⟩;have:=h3 j hjn;simp[e]at this;omega
theorem Cg.uniq{p:Nat→Nat}{i n m:Nat}(h:Cg p i n)(h':Cg p i m):n=m:=by
 rcases Nat.lt_trichotomy n m with c|c|c
 ·exact absurd h.ret (h'.min n h.pos c)
 ·exact c
 ·exact absurd h'.ret (h.min m h'.pos c)
def lf(p:Nat→Nat)(i:Nat):List Nat:=(WO (len p i)).map fun k=>iter p k i
theorem iz(p:Nat→Nat)(i:Nat):(lf p i).length=len p i:=by simp[lf]
theorem vu{p:Nat→Nat}{i n:Nat}(h:iter p n i=i):∀c,iter p (n*c) i=i
 |0=>rfl
 |c+1=>by rw[Nat.mul_succ,jK,h,vu h c]
theorem MT{p:Nat→Nat}{i n:Nat}(h:iter p n i=i)(k:Nat):iter p k i=iter p (k % n) i:=by
 have h1:k=k % n+n*(k / n):=by have:=Nat.div_add_mod k n;omega
 rw(occs:=.pos [1]) [h1];rw[jK,vu h]
theorem jU{p:Nat→Nat}(hp:aC p)(i:Nat)(hi:i<26)(x:Nat):x∈lf p i↔∃k,iter p k i=x:=by
 constructor
 ·intro h
  obtain⟨k,_,e⟩:=Yh.1 h;exact⟨k,e⟩
 ·rintro⟨k,e⟩
  have hl:=mj hp i hi;rw[MT hl.ret]at e;exact Yh.2 ⟨k % len p i,by simpa using X8 _ hl.pos,e⟩
theorem uY{p:Nat→Nat}(hp:aC p)(i:Nat)(hi:i<26)(x:Nat)(h:x∈lf p i):x<26:=by
 obtain⟨k,e⟩:=(jU hp i hi x).1 h;rw[←e];exact gA hp i hi k
theorem K0{p:Nat→Nat}(hp:aC p)(i:Nat)(hi:i<26):i∈lf p i:=(jU hp i hi i).2 ⟨0,rfl⟩
theorem mH{p:Nat→Nat}(hp:aC p)(i j x:Nat)(hi:i<26)(hj:j<26)(h1:i∈lf p j)(h2:x∈lf p i):x∈lf p j:=by
 obtain⟨a,e1⟩:=(jU hp j hj i).1 h1;obtain⟨b,e2⟩:=(jU hp i hi x).1 h2;exact(jU hp j hj x).2 ⟨b+a,by rw[jK,e1,e2]⟩
theorem BI{p:Nat→Nat}(hp:aC p)(i j:Nat)(hj:j<26)(h:i∈lf p j):j∈lf p i:=by
 have hi:=uY hp j hj i h;obtain⟨a,e⟩:=(jU hp j hj i).1 h;have hl:=mj hp j hj;refine(jU hp i hi j).2 ⟨len p j*(a+1)-a,?_⟩;rw[←e,←jK]
 have:len p j*(a+1)-a+a=len p j*(a+1):=by
  have h1:a+1≤len p j*(a+1):=Nat.le_mul_of_pos_left _ hl.pos;omega
 rw[this];exact vu hl.ret _
theorem qM{p:Nat→Nat}(hp:aC p)(i:Nat)(hi:i<26):(lf p i).Nodup:=by
 have hl:=mj hp i hi;refine ir _ _ Yt fun a ha b hb e=>?_;simp at ha hb;apply XB;intro hne;rcases ZA a b with c|c
 ·exact hl.min (b-a) vom vom (mF hp i hi a b vom e)
 ·exact hl.min (a-b) vom vom (mF hp i hi b a vom e.symm)
theorem CN{p:Nat→Nat}(hp:aC p)(i j:Nat)(hj:j<26)(h:i∈lf p j):len p i=len p j:=by
 have hi:=uY hp j hj i h;have h1:=dP _ (lf p j) (qM hp i hi) (fun x hx=>mH hp i j x hi hj h hx);have h2:=dP _ (lf p i) (qM hp j hj) (fun x hx=>mH hp j i x hj hi (BI hp i j hj h) hx);rw[iz,iz]at h1 h2;omega
def met(p:Nat→Nat)(k x:Nat):Bool:=(WO k).any fun i=>(lf p i).contains x
theorem uE(p:Nat→Nat)(k x:Nat):met p (k+1) x=(met p k x||(lf p k).contains x):=by simp[met,List.range_succ,List.any_append]
theorem oT(p:Nat→Nat)(k x:Nat):met p k x=true↔∃i,i<k∧x∈lf p i:=by simp[met]
theorem xS{p:Nat→Nat}(hp:aC p)(k:Nat)(hk:k<26)(h:met p k k=true)(x:Nat):met p (k+1) x=met p k x:=by
 rw[uE];cases hm:met p k x with
 |true=>rfl
 |false=>
  rw[Bool.false_or];obtain⟨i,hi,hx⟩:=(oT p k k).1 h;cases hc:(lf p k).contains x with
  |false=>rfl
  |true=>
   have h1:x∈lf p k:=by simpa using hc
   have:=(oT p k x).2 ⟨i,hi,mH hp k i x hk vom hx h1⟩;rw[hm]at this;cases this
def eS(p:Nat→Nat):Nat→List (List Nat)
 |0=>[]
 |k+1=>if met p k k=true then eS p k else eS p k++[lf p k]
theorem qu(p:Nat→Nat):∀k c,c∈eS p k→∃i,i<k∧c=lf p i∧met p i i=false
 |0,c,h=>by cases h
 |k+1,c,h=>by
  unfold eS at h;split at h
  ·obtain⟨i,hi,e⟩:=qu p k c h
   exact⟨i,vom,e⟩
  ·rename_i hm
   rcases X7.1 h with h|h
   ·obtain⟨i,hi,e⟩:=qu p k c h
    exact⟨i,vom,e⟩
   ·simp at h
    exact⟨k,vom,h,by simpa using hm⟩
theorem vM{p:Nat→Nat}(hp:aC p):∀k,k≤26→∀x,x∈(eS p k).flatten↔met p k x=true
 |0,_,x=>by simp[eS,met]
 |k+1,hk,x=>by
  have ih:=vM hp k vom x;unfold eS;split
  ·rename_i hm
   rw[xS hp k vom hm x];exact ih
  ·rw[List.flatten_append,X7,ih,uE]
   simp
theorem og{p:Nat→Nat}(hp:aC p):∀k,k≤26→(eS p k).flatten.Nodup
 |0,_=>by simp[eS]
 |k+1,hk=>by
  have ih:=og hp k vom;unfold eS;split
  ·exact ih
  ·rename_i hm
   rw[List.flatten_append,List.nodup_append];refine⟨ih,by simpa using qM hp k vom,fun a ha b hb e=>?_⟩;subst e;have h1:=(vM hp k vom a).1 ha;have h2:a∈lf p k:=by simpa using hb
   obtain⟨i,hi,h3⟩:=(oT p k a).1 h1;have c:=uY hp k vom a h2;have:k∈lf p i:=mH hp a i k c vom h3 (BI hp a k vom h2);exact hm ((oT p k k).2 ⟨i,hi,this⟩)
theorem pR{p:Nat→Nat}(hp:aC p)(x:Nat):x∈(eS p 26).flatten↔x<26:=by
 rw[vM hp 26 (R3 _),oT];constructor
 ·rintro⟨i,hi,h⟩;exact uY hp i hi x h
 ·intro h;exact⟨x,h,K0 hp x h⟩
theorem sQ{p:Nat→Nat}(hp:aC p):(eS p 26).flatten.length=26:=by
 have h1:=dP _ (WO 26) (og hp 26 (R3 _)) (fun x hx=>by simpa using(pR hp x).1 hx);have h2:=dP _ (eS p 26).flatten (Yt (n:=26)) (fun x hx=>(pR hp x).2 (by simpa using hx));simp at h1 h2⊢;omega
theorem qb(p:Nat→Nat):∀k,(eS p k).length≤k
 |0=>by simp[eS]
 |k+1=>by
  have:=qb p k;unfold eS;split
  ·omega
  ·simp;omega
end Pm
section
open Go.RowKit PK
def lD(l:List Nat):List R2:=l.map fun(i:Nat)=>Value.int .i64 (i:Int)
theorem se(l m:List Nat):lD (l++m)=lD l++lD m:=by simp[lD]
def fH(w:V8)(B:Nat)(v:R2)(l:List Nat):Prop:=w.ownsRow B 3 1 v l.length (lD l)
theorem xI:(qf.info? 3).map (fun i=>(i.zero,i.size,i.bytes))=some (some (.int .i64 0),1,8):=vkr
def xx:R2→Nat
 |.slice _ n _=>n
 |_=>0
theorem nY{w:V8}{B:Nat}{e:Wj}{v:R2}{n:Nat}{xs:List R2}(h:w.ownsRow B e 1 v n xs):xx v=n:=by
 rcases h.2 with⟨rfl,h0⟩|⟨g,cap,cur,rfl,_⟩
 ·rw[h0];rfl
 ·rfl
theorem pN{w:V8}{B B':Nat}{e:Wj}{v:R2}{n:Nat}{xs:List R2}(h:w.ownsRow B e 1 v n xs)(hb:B'≤B):w.ownsRow B' e 1 v n xs:=
 ⟨h.1,h.2.imp id fun⟨g,cap,cur,a,b,c⟩=>⟨g,cap,cur,a,Ws hb b,c⟩⟩
theorem qE{w:V8}{B:Nat}{e:Wj}{v:R2}{n:Nat}{xs:List R2}(h:w.ownsRow B e 1 v n xs)(hn:0<n):∃g cap,v=.slice (some ⟨g,0,none⟩) n cap:=by
 rcases h.2 with⟨_,h0⟩|⟨g,cap,_,e1,_⟩
 ·omega
 ·exact⟨g,cap,e1⟩
theorem uw{w w':V8}{B:Nat}{e:Wj}{v:R2}{n:Nat}{xs:List R2}(h:w.ownsRow B e 1 v n xs)(hb:Wh w.heap.size w w'):w'.ownsRow B e 1 v n xs:=
 ⟨h.1,h.2.imp id fun⟨g,cap,cur,a,b,c,d⟩=>⟨g,cap,cur,a,b,(hb.block g (Wd.1 c).1).trans c,d⟩⟩
theorem CK{w:V8}{B B':Nat}{e e':Wj}{v v':R2}{n n':Nat}{xs xs':List R2}(h:w.ownsRow B e 1 v n xs)(h':w.ownsRow B' e' 1 v' n' xs')(he:e≠e'):v.ownBlock=none∨v.ownBlock≠v'.ownBlock:=by
 rcases h.2 with⟨rfl,_⟩|⟨g,cap,cur,rfl,_,hc,_⟩
 ·exact .inl rfl
 ·rcases h'.2 with⟨rfl,_⟩|⟨g',cap',cur',rfl,_,a,_⟩
  ·exact .inr (by simp[Value.ownBlock])
  ·refine .inr fun e1=>?_
   simp[Value.ownBlock]at e1;rw[e1,a]at hc;simp at hc;exact he hc.2.symm
def dc(w:V8)(B:Nat)(v:R2)(ls:List (List Nat)):Prop:=
 ∃vs:List R2,w.ownsRow B 31 1 v ls.length vs∧∀(k:Nat) (u:R2) (l:List Nat),vs[k]?=some u→ls[k]?=some l→fH w B u l
theorem dc.nil(w:V8)(B:Nat):dc w B (.slice none 0 0) []:=⟨[],World.ownsRow_nil w B _ 1,fun k u l h _=>by simp at h⟩
theorem dc.below{w w':V8}{B:Nat}{v:R2}{ls:List (List Nat)}(h:dc w B v ls)(hb:Wh w.heap.size w w'):dc w' B v ls:=by
 obtain⟨vs,h1,h2⟩:=h;exact⟨vs,uw h1 hb,fun k u l a b=>uw (h2 k u l a b) hb⟩
theorem dc.set{w:V8}{B:Nat}{v:R2}{ls:List (List Nat)}(h:dc w B v ls){a:Addr}(ha:a.block<B)(x:R2):dc (w.setCell a x) B v ls:=by
 obtain⟨vs,h1,h2⟩:=h;exact⟨vs,ownsRow_setCell_below h1 ha x,fun k u l a b=>ownsRow_setCell_below (h2 k u l a b) ha x⟩
theorem dc.le{w:V8}{B B':Nat}{v:R2}{ls:List (List Nat)}(h:dc w B v ls)(hb:B'≤B):dc w B' v ls:=by
 obtain⟨vs,h1,h2⟩:=h;exact⟨vs,pN h1 hb,fun k u l a b=>pN (h2 k u l a b) hb⟩
theorem dc.app{w w':V8}{B:Nat}{v v' u:R2}{ls:List (List Nat)}{l:List Nat}{vs:List R2}(h1:w.ownsRow B 31 1 v ls.length vs)(h2:∀(k:Nat) (u:R2) (l:List Nat),vs[k]?=some u→ls[k]?=some l→fH w B u l)
  (hu:fH w B u l) (h':w'.ownsRow B 31 1 v' (ls.length+1) (vs++[u])) (hg:w.grownBy w' v.ownBlock):dc w' B v' (ls++[l]):=by
 have c:vs.length=ls.length:=by have:=h1.1;omega
 refine⟨vs++[u],by simpa using h',fun k a b ha hb=>?_⟩;have keep:∀a b,fH w B a b→fH w' B a b:=fun a b h=>World.ownsRow.kept h hg (CK h h1 vde);by_cases hk:k<ls.length
 ·rw[WS vom]at ha
  rw[WS hk]at hb;exact keep _ _ (h2 k a b ha hb)
 ·have d:k=ls.length:=by
   have:=(WW.1 hb).1;simp at this;omega
  subst d;rw[←c]at ha;simp at ha hb;subst ha hb;exact keep _ _ hu
theorem nA{W W':V8}{b:Nat}{T:Wj}{c:Array R2}{row:Option Nat}(h:af W b T c)(hg:W.grownBy W' row)(hr:∀k,row=some k→b+1≤k):af W' b T c:=
 h.below ((Below.refl (b+1) W).grown hg h.lt hr) (Xj _)
theorem wT(p:Nat→Nat)(hp:Pm.aC p)(i:Nat)(hi:i<26)(w:V8):
  WA qf 107 #[.agg (ints 26 (Pm.up p)),.int .i64 (i:Nat)] w fun e w'=>∃v,e=.returned v∧fH w' w.heap.size v (Pm.lf p i)∧Wh w.heap.size w w':=by
 obtain⟨i0,o,t,q,s⟩:=info_parts xI;have c:=Pm.mj hp i hi;go_enter Tryz.func107,Tryz.ntmps107;have B:=hp.lt i hi;have G:(ints 26 (Pm.up p))[i]?=some (.int .i64 (p i:Nat)):=aB (Pm.up p) hi;go_wp2;go_loopw [5,6] (fun v a W=>∃m:Nat,1≤m∧m≤Pm.len p i∧a=.int .i64 (Pm.iter p m i:Nat)∧fH W (w.heap.size+1) v ((WO m).map fun k=>Pm.iter p k i)∧af W w.heap.size 33 (ints 26 (Pm.up p))∧Wh w.heap.size w W) (fun v _ _=>27-xx v)
 case atStart=>
  refine⟨1,R3 _,c.pos,rfl,⟨by simp[lD],.inr ⟨w.heap.size+1,1,#[.int .i64 (i:Nat)],rfl,vom,?_,R3 _,vde,rfl,rfl⟩⟩,(af.new w _ _).alloc _,((Below.refl _ _).alloc (R3 _) _).alloc vsi _⟩;exact af.newAt vsi
 case round=>
  obtain⟨m,z,D,rfl,b,f,hb⟩:=hrel;have C:=f.lt;have hx:=Pm.gA hp i hi m;have F:=c.le;by_cases hlt:m<Pm.len p i
  ·have h:((Pm.iter p m i:Nat):Int)≠((i:Nat):Int):=by have:=c.min m vom hlt;omega
   have HS:Hid (Pm.iter p (m+1) i=p (Pm.iter p m i)):=rfl;obtain⟨x,j⟩:∃x,x=Pm.iter p m i:=⟨_,rfl⟩
   have HX:Hid (x=Pm.iter p m i):=j;rw[←j]at h hx HS⊢;clear j;have y:(((x:Nat):Int) != ((i:Nat):Int))=true:=by simpa using h
   clear h;have n:(ints 26 (Pm.up p))[x]?=some (.int .i64 (p x:Nat)):=aB (Pm.up p) hx;have l:((WO m).map fun k=>Pm.iter p k i).length=m:=vsi
   go_wp2_with (first
    |(at_builtin;refine wpList_append_own _ rfl _ _ 31 rfl (w.heap.size+1) 3 i0 (.int .i64 0) 1 8 Tryz.underlying31 o t q s rfl vde _ _ _ rfl (Xp b _) ⟨wr.heap.size,0,none⟩ 1 1 [.int .i64 (x:Nat)] rfl rfl (cell_one_new _ _ _) (fun u hu=>by simp at hu;subst hu;rfl) (by rw[l];unfold maxLen;omega) (by rw[l];omega) vso ?_;intro v' w1 hown' hgrow _;have d:af w1 w.heap.size 33 (ints 26 (Pm.up p)):=nA (f.alloc _) hgrow (fun k hk=>(WC b k hk).1);have E:=d.cell n))
   go_roundw
   case rel=>
    refine⟨m+1,vom,vom,by rw[HS.out],?_,d,?_⟩
    ·have e1:((WO (m+1)).map fun k=>Pm.iter p k i)=((WO m).map fun k=>Pm.iter p k i)++[x]:=by rw[ZI,List.map_append];simp[HX.out]
     rw[e1,fH,se,WM];exact hown'
    ·exact(hb.alloc vom _).grown hgrow vso (fun k hk=>by have:=(WC b k hk).1;omega)
   case measure=>
    have h1:=nY b;have h2:=nY hown';simp at h1 h2⊢;omega
  ·have HM:Hid (m=Pm.len p i):=by rw[Hid];omega
   have g:Pm.iter p m i=i:=by rw[HM.out];exact c.ret
   have A:(((Pm.iter p m i:Nat):Int) != ((i:Nat):Int))=false:=by rw[g];simp
   clear g;go_wp2;go_ret;refine⟨_,rfl,?_,hb⟩;have:=pN b (B':=w.heap.size) vom;rw[HM.out]at this;exact this
theorem Ek:(qf.info? 31).map (fun i=>(i.zero,i.size,i.bytes))=some (some (.slice none 0 0),1,24):=vkr
theorem Hz(f:Nat→Bool)(c:List Nat)(j x:Nat)(h:c[j]?=some x):iF 26 (upd (fun y=>f y||(c.take j).contains y) x true)=iF 26 (fun y=>f y||(c.take (j+1)).contains y):=jq fun y _=>by
 have hj:=(WW.1 h).1;have hx:=(WW.1 h).2;have e1:c.take (j+1)=c.take j++[x]:=by rw[Y6 hj,hx]
 rw[e1];by_cases e:y=x
 ·subst e;simp
 ·rw[cH _ _ e]
  simp[e]
theorem Ed(p:Nat→Nat)(hp:Pm.aC p)(w:V8):
  WA qf 66 #[.agg (ints 26 (Pm.up p))] w fun e w'=>∃v,e=.returned v∧dc w' w.heap.size v (Pm.eS p 26)∧Wh w.heap.size w w':=by
 obtain⟨i0,G,M,I,J⟩:=info_parts Ek;go_enter Tryz.func66,Tryz.ntmps66;go_wp2;rw[Kq];go_loopw [3,9] (fun v i W=>∃k:Nat,k≤26∧i=.int .i64 k∧dc W (w.heap.size+2) v (Pm.eS p k)∧af W w.heap.size 33 (ints 26 (Pm.up p))∧af W (w.heap.size+1) 167 (iF 26 (Pm.met p k))∧Wh w.heap.size w W) (fun _ i _=>(26-intOf i).toNat)
 case atStart=>exact⟨0,vom,rfl,dc.nil _ _,(af.new w _ _).alloc _,af.newAt vsi,((Below.refl _ _).alloc (R3 _) _).alloc vsi _⟩
 case round=>
  obtain⟨k,hk,rfl,f,l,h,hb⟩:=hrel;have H:=h.lt;by_cases hlt:k<26
  ·have hc:=h.cell (qR (Pm.met p k) hlt)
   cases hm:Pm.met p k k
   ·rw[hm]at hc
    have HM:Hid (Pm.met p k k=false):=hm;clear hm
    go_wp2_with (refine Wn rfl 33 _ rfl w.heap.size rfl 33 (ints 26 (Pm.up p)) (0,0) _ l Wp rfl (by rw[ag];exact aj) ?_)
    refine(wT p hp k hlt _).mono ?_;rintro e w1 ⟨u,rfl,F,o⟩;have hu:=pN (B':=w.heap.size+2) F vom;have s:=Pm.mj hp k hlt;have E:=Pm.iz p k;obtain⟨g,cap,A⟩:=qE hu (by have:=s.pos;omega);have q:=f.below o;have z:=l.below o l.lt;have t:=h.below o H;have B:=hb.trans (o.mono vom);have P:=o.size;subst A;clear F f l h hc hb o;have K:Hid ((Pm.lf p k).length=Pm.len p k):=E;clear E;obtain⟨n,hn⟩:∃n,n=(Pm.lf p k).length:=⟨_,rfl⟩
    have HN:Hid (n=(Pm.lf p k).length):=hn;have N:n≤26:=by rw[HN.out,K.out];exact s.le
    rw[←hn]at hu⊢;clear hn;go_wp2;go_loopw [20] (fun j W=>∃m:Nat,m≤n∧j=.int .i64 m∧dc W (w.heap.size+2) u3 (Pm.eS p k)∧fH W (w.heap.size+2) (.slice (some ⟨g,0,none⟩) n cap) (Pm.lf p k)∧af W w.heap.size 33 (ints 26 (Pm.up p))∧af W (w.heap.size+1) 167 (iF 26 fun y=>Pm.met p k y||((Pm.lf p k).take m).contains y)∧Wh w.heap.size w W∧w.heap.size+2≤W.heap.size) (fun j _=>(n-intOf j).toNat)
    case atStart=>
     refine⟨0,vom,rfl,q,by rw[fH,←HN.out];exact hu,z,?_,B,vom⟩;rw[jq (g:=Pm.met p k) fun y _=>by simp];exact t
    case round=>
     clear q hu z t B;obtain⟨m,hm,rfl,f,hu,l,h,hb,C⟩:=hrel;by_cases hmn:m<n
     ·obtain⟨x,hx⟩:∃x,(Pm.lf p k)[m]?=some x:=⟨(Pm.lf p k)[m]'(by rw[←HN.out];exact hmn),Wu _⟩
      have D:x<26:=Pm.uY hp k hlt x (List.mem_of_getElem? hx)
      have Q:wr.cell? ⟨g,m,none⟩=some (.int .i64 (x:Nat)):=by
       have h1:=hu;rw[fH,←HN.out]at h1;rw[World.ownsRow.cellAt h1 m vom];simp[lD,hx]
      have HX:Hid ((Pm.lf p k)[m]?=some x):=hx;clear hx;have T:=h.cell (qR (fun y=>Pm.met p k y||((Pm.lf p k).take m).contains y) D);have S:=h.frozen x;go_wp2;go_roundw
      case rel=>
       refine⟨m+1,vom,by go_num,f.set vsi _,ownsRow_setCell_below hu vsi _,l.setOther _ _ vsi,?_,hb.setCell vsi _,by simpa using C⟩;rw[←Hz (Pm.met p k) (Pm.lf p k) m x HX.out,←xY];exact h.set x _
      case measure=>simp[intOf];omega
     ·have L:Hid (m=n):=by rw[Hid];omega
      obtain⟨vs,hv1,hv2⟩:=f;have O:=Pm.qb p k
      go_wp2_with (first
       |(at_builtin;refine wpList_append_own _ rfl _ _ 29 rfl (w.heap.size+2) 31 i0 (.slice none 0 0) 1 24 Tryz.underlying29 G M I J rfl vde _ _ _ rfl (Xp hv1 _) ⟨wr.heap.size,0,none⟩ 1 1 [.slice (some ⟨g,0,none⟩) n cap] rfl rfl (cell_one_new _ _ _) (fun u hu=>by simp at hu;subst hu;rfl) (by unfold maxLen;omega) vom vso ?_;intro v' w2 hown' hgrow _))
      go_roundw
      case rel=>
       refine⟨k+1,vom,by go_num,?_,nA (l.alloc _) hgrow (fun j hj=>by have:=(WC hv1 j hj).1;omega),?_,(hb.alloc vom _).grown hgrow vso (fun j hj=>by have:=(WC hv1 j hj).1;omega)⟩
       ·unfold Pm.eS
        rw[V9 (by rw[HM.out];simp)];exact dc.app (Xp hv1 _) (fun a b c d e=>Xp (hv2 a b c d e) _) (Xp hu _) hown' hgrow
       ·have e1:(Pm.lf p k).take m=Pm.lf p k:=ZD (by rw[L.out,HN.out];exact R3 _)
        rw[e1]at h;rw[jq (g:=fun y=>Pm.met p k y||(Pm.lf p k).contains y) fun y _=>Pm.uE p k y];exact nA (h.alloc _) hgrow (fun j hj=>by have:=(WC hv1 j hj).1;omega)
      case measure=>simp[intOf];omega
   ·rw[hm]at hc
    have HM:Hid (Pm.met p k k=true):=hm;clear hm;go_wp2;go_roundw
    case rel=>exact⟨k+1,vom,by go_num,by unfold Pm.eS;rw[Wc HM.out];exact f,l,by rw[jq fun x _=>Pm.xS hp k hlt HM.out x];exact h,hb⟩
    case measure=>simp[intOf];omega
  ·have HK:Hid (k=26):=by rw[Hid];omega
   go_wp2;go_ret;refine⟨_,rfl,?_,hb⟩;have:=f.le (B':=w.heap.size) vom;rw[HK.out]at this;exact this
end
end Go.Proofs.YtpcnpkhgjanamaaGreatDoor
