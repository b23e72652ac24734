import Derived.Test.YtpcnpkhgjanamaaGreatDoorPz
import Derived.Stop.LaidErr
import Derived.Lay
import Derived.LaidMore
import Derived.Conc.Deaf
import Derived.Conc.Listed
import Derived.Test.YtpcnpkhgjanamaaGreatDoorJn18
import Derived.Test.YtpcnpkhgjanamaaGreatDoorRows
namespace Go.Proofs.YtpcnpkhgjanamaaGreatDoor
open Go.Proofs.Tryz renaming prog→qf,underlying37→WY,underlying9→YW
open Go renaming Value→R2,World→V8,TypeId→Wj,Program→Wr,Operand→Yb,Event→Ym
open Go.Mode renaming atomic→Zg
set_option maxRecDepth 100000
set_option maxHeartbeats 2000000
section
open Go.RowKit PK Vg
theorem l6{P:Wr}(t e:Wj)(n:Nat)(hu:P.underlying t=some (.array n e))(he:P.underlying e=some .string)(hs:(P.info? e).map (·.size)=some 1)(f:Nat→ByteArray)(k:Nat)(hk:k<n)(w:V8):
  (Instr.index t (.agg (bJ n fun i=>.string (f i))) (.int .i64 (k:Int))).run P w=.ok (.string (f k)) w:=by
 cases hq:P.info? e with
 |none=>simp[hq]at hs
 |some i=>
  have h1:i.size=1:=by simpa[hq]using hs
  have h2:((k:Int)<(n:Int)):=vom;simp[Instr.index,asIntOf,Sem.run_bind,run_underlying hu,part,isAgg,run_underlying he,sizeOf,typeInfo,hq,h1,hk,aM (fun i=>Value.string (f i)) hk]
theorem Bl:(qf.info? 9).map (·.size)=some 1:=vkr
def Jk:Nat→ByteArray
 |1=>⟨#[109,111,118,101]⟩
 |3=>⟨#[114,97,105,108]⟩
 |4=>⟨#[99,111,108,117,109,110,115]⟩
 |5=>⟨#[104,105,108,108]⟩
 |6=>⟨#[114,111,116,111,114]⟩
 |_=>⟨#[]⟩
def Hu:Nat→ByteArray
 |1=>⟨#[118,105,103,101,110,101,114,101]⟩
 |2=>⟨#[98,101,97,117,102,111,114,116]⟩
 |3=>⟨#[118,97,114,105,97,110,116]⟩
 |4=>⟨#[97,117,116,111,107,101,121]⟩
 |_=>⟨#[]⟩
def Rq:Array R2:=bJ 7 fun i=>.string (Jk i)
def Ss:Array R2:=bJ 5 fun i=>.string (Hu i)
structure kW(w:V8):Prop where
 kn:w.rangeAt 0 0 Rq.toList
 tb:w.rangeAt 1 0 Ss.toList
theorem kW.below{w w':V8}(h:kW w)(hb:Below w.heap.size w w'):kW w':=⟨b7 h.kn hb,b7 h.tb hb⟩
def wC(f:Nat→ByteArray)(s:ByteArray):Nat→Option Nat
 |0=>none
 |m+1=>match wC f s m with
  |some i=>some i
  |none=>if f m=s then some m else none
theorem nu{f:Nat→ByteArray}{s:ByteArray}:∀{m:Nat},(∀j,j<m→f j≠s)→wC f s m=none
 |0,_=>rfl
 |m+1,h=>by unfold wC;rw[nu (fun j hj=>h j vom)];simp only[V9 (h m vom)]
theorem yT{f:Nat→ByteArray}{s:ByteArray}{k:Nat}(h0:∀j,j<k→f j≠s)(h:f k=s):∀{m:Nat},k<m→wC f s m=some k
 |0,hk=>by omega
 |m+1,hk=>by
  unfold wC;by_cases e:k=m
  ·subst e;rw[nu h0];simp only[Wc h]
  ·rw[yT h0 h (m:=m) vom]
def FL(s:ByteArray):Option (Nat×Nat):=match wC Jk s 7 with
 |some k=>some (k,0)
 |none=>(wC Hu s 5).map fun n=>(2,n)
def stA(k n:Nat):Array R2:=eG k n ⟨#[]⟩ (.slice none 0 0) (.slice none 0 0) (.slice none 0 0) (.slice none 0 0) (fun _=>0) (fun _=>0)
theorem Mo(k n:Nat):(stA k n).size=59:=bg _ _ _ _ _ _ _ _ _
theorem O0(k n:Nat):(stA k n).all (·.oneCell')=true:=eU rfl rfl rfl rfl
theorem Ni(k:Int):qf.built 37 [(0,.int .i64 k)]=some (eG k 0 ⟨#[]⟩ (.slice none 0 0) (.slice none 0 0) (.slice none 0 0) (.slice none 0 0) (fun _=>0) (fun _=>0)):=vkr
theorem Kn(k n:Int):qf.built 37 [(0,.int .i64 k),(1,.int .i64 n)]=some (eG k n ⟨#[]⟩ (.slice none 0 0) (.slice none 0 0) (.slice none 0 0) (.slice none 0 0) (fun _=>0) (fun _=>0)):=vkr
theorem NJ:qf.built 37 []=some (eG 0 0 ⟨#[]⟩ (.slice none 0 0) (.slice none 0 0) (.slice none 0 0) (.slice none 0 0) (fun _=>0) (fun _=>0)):=vkr
theorem qL{P:Wr}{ops:Array Oper}{rest:List Oper}{op:Oper}{a:Act}{w:V8}{Q:Exit→Act→V8→Prop}(hgd:op.guard=none)(t:Wj)(xs:List (Nat×Yb))(ho:op.op=.build t xs.toArray)(vs:List (Nat×R2))(hv:xs.map (fun x=>(x.1,a.eval x.2))=vs)
  (cells:Array R2) (hb:P.built t vs=some cells) (h:wpList P ops Q rest (a.put op.dst (.agg cells)) w):wpList P ops Q (op :: rest) a w:=by
 refine wpList_build hgd t xs.toArray ho ?_ ?_
 ·simp only[List.map_toArray]
  rw[show(List.map (fun x:Nat×Yb=>(x.1,a.eval x.2)) xs)=vs from hv];simp[hb]
 ·simp only[List.map_toArray]
  rw[show(List.map (fun x:Nat×Yb=>(x.1,a.eval x.2)) xs)=vs from hv];simp only[hb,Ww];exact h
theorem IY(s:ByteArray)(w:V8)(hn:kW w):Calls qf 70 #[.string s] w fun e w'=>(∀k n,FL s=some (k,n)→e=.returned (.tuple #[.agg (stA k n),.bool true]))∧(FL s=none→e=.returned (.tuple #[.agg (stA 0 0),.bool false]))∧Below w.heap.size w w':=by
 obtain⟨W,hW⟩:∃W,W=w.alloc (.cells (eG 0 0 ⟨#[]⟩ (.slice none 0 0) (.slice none 0 0) (.slice none 0 0) (.slice none 0 0) (fun _=>0) (fun _=>0)) 37):=⟨_,rfl⟩
 have c:Below w.heap.size w W:=by rw[hW];exact(Below.refl _ w).alloc (R3 _) _
 have g:af W w.heap.size 37 (eG 0 0 ⟨#[]⟩ (.slice none 0 0) (.slice none 0 0) (.slice none 0 0) (.slice none 0 0) (fun _=>0) (fun _=>0)):=by rw[hW];exact af.new w _ _
 have t:=b7 hn.kn c;have x:=b7 hn.tb c;have HK:Hid (FL s=match wC Jk s 7 with|some k=>some (k,0)|none=>(wC Hu s 5).map fun n=>(2,n)):=rfl;have HB:Hid (Below w.heap.size w W):=c;have HQ:Hid (af W w.heap.size 37 (eG 0 0 ⟨#[]⟩ (.slice none 0 0) (.slice none 0 0) (.slice none 0 0) (.slice none 0 0) (fun _=>0) (fun _=>0))):=g;have v:=bR zX;go_enter Tryz.func70,Tryz.ntmps70
 go_upto_region 1 with fail
 rw[←hW];clear hW c g v hn;have A:Rq.size=7:=aU _ _;have y:Ss.size=5:=aU _ _
 go_wp2_with (refine aX rfl 178 _ rfl 0 0 rfl Rq _ t Tryz.underlying178 rfl (by rw[A];kernel_rfl) ?_)
 have o:Hid (∀m X,m<7→(Instr.index 178 (.agg Rq) (.int .i64 (m:Nat))).run qf X=.ok (.string (Jk m)) X):=fun m X hm=>l6 178 9 7 Tryz.underlying178 YW Bl Jk m hm X;have z:Hid (∀m X,m<5→(Instr.index 179 (.agg Ss) (.int .i64 (m:Nat))).run qf X=.ok (.string (Hu m)) X):=fun m X hm=>l6 179 9 5 Tryz.underlying179 YW Bl Hu m hm X;generalize Rq=KA at *;go_loopw [9] (fun i X=>∃m:Nat,m≤7∧i=.int .i64 (m:Nat)∧Hid (∀j,j<m→Jk j≠s)∧X=W) (fun i _=>((7:Int)-intOf i).toNat)
 case atStart=>exact⟨0,vom,rfl,fun j hj=>by omega,rfl⟩
 case round=>
  obtain⟨m,hm,rfl,HJ,rfl⟩:=hrel;by_cases hlt:m<7
  ·have q:=o.out m
   have u:=q wr hlt;have a:Hid (m<7):=hlt;have l:(m:Int)<7:=vom;clear q;by_cases he:Jk m=s
   ·have f:((Jk m).toList==s.toList)=true:=P0 he
    have HF:Hid (FL s=some (m,0)):=by rw[Hid,HK.out,yT HJ.out he hlt]
    generalize Jk m=NM at *;have b:=HQ.out;clear he HJ HK
    go_wp2_with (first|refine qL rfl 37 [(0,_)] rfl [(0,.int .i64 (m:Nat))] rfl _ (Ni (m:Nat)) ?_|refine Wk rfl 37 _ _ rfl w.heap.size (eG (m:Nat) 0 ⟨#[]⟩ (.slice none 0 0) (.slice none 0 0) (.slice none 0 0) (.slice none 0 0) (fun _=>0) (fun _=>0)) rfl rfl 37 _ b (by rw[bg];exact bY) (by rw[bg,bg]) (eU rfl rfl rfl rfl) ?_)
    exact⟨rfl,_,aF rfl _ _ w.heap.size 37 (eG (m:Nat) 0 ⟨#[]⟩ (.slice none 0 0) (.slice none 0 0) (.slice none 0 0) (.slice none 0 0) (fun _=>0) (fun _=>0)) (0,0) _ _ rfl rfl (af.row HQ.out _) WY rfl (by rw[bg];exact bY),fun k n h=>by rw[HF.out]at h;cases h;rfl,fun h=>absurd (HF.out.symm.trans h) vsi,PK.Below.setRow HB.out w.heap.size (R3 _) _⟩
   ·have f:((Jk m).toList==s.toList)=false:=PC he
    have HN:Hid (∀j,j<m+1→Jk j≠s):=fun j hj=>by
     by_cases e:j=m
     ·rw[e];exact he
     ·exact HJ.out j vom
    generalize Jk m=NM at *;clear he HJ
    go_wp2_with fail
    go_roundw
    case rel=>exact⟨m+1,a.out,by go_num,HN,by first|rfl|trivial⟩
    case measure=>have:=a.out;simp[intOf]<;>omega
  ·obtain rfl:m=7:=vom
   have d:Hid (FL s=(wC Hu s 5).map fun n=>(2,n)):=by rw[Hid,HK.out,nu HJ.out]
   clear HK HJ hm hlt t o
   go_wp2_with (refine aX rfl 179 _ rfl 1 0 rfl Ss _ x Tryz.underlying179 rfl (by rw[y];kernel_rfl) ?_)
   generalize Ss=TA at *;go_loopw [20] (fun i X=>∃m:Nat,m≤5∧i=.int .i64 (m:Nat)∧Hid (∀j,j<m→Hu j≠s)∧X=wr) (fun i _=>((5:Int)-intOf i).toNat)
   case atStart=>exact⟨0,vom,rfl,fun j hj=>by omega,rfl⟩
   case round=>
    obtain⟨m,hm,rfl,HJ,rfl⟩:=hrel;by_cases hlt:m<5
    ·have u:=z.out m wr hlt
     have a:Hid (m<5):=hlt;have l:(m:Int)<5:=vom;by_cases he:Hu m=s
     ·have f:((Hu m).toList==s.toList)=true:=P0 he
      have HF:Hid (FL s=some (2,m)):=by rw[Hid,d.out,yT HJ.out he hlt];rfl
      generalize Hu m=NM at *;have b:=HQ.out;clear he HJ d
      go_wp2_with (first|refine qL rfl 37 [(0,_),(1,_)] rfl [(0,.int .i64 2),(1,.int .i64 (m:Nat))] rfl _ (Kn 2 (m:Nat)) ?_|refine Wk rfl 37 _ _ rfl w.heap.size (eG 2 (m:Nat) ⟨#[]⟩ (.slice none 0 0) (.slice none 0 0) (.slice none 0 0) (.slice none 0 0) (fun _=>0) (fun _=>0)) rfl rfl 37 _ b (by rw[bg];exact bY) (by rw[bg,bg]) (eU rfl rfl rfl rfl) ?_)
      exact⟨rfl,_,aF rfl _ _ w.heap.size 37 (eG 2 (m:Nat) ⟨#[]⟩ (.slice none 0 0) (.slice none 0 0) (.slice none 0 0) (.slice none 0 0) (fun _=>0) (fun _=>0)) (0,0) _ _ rfl rfl (af.row HQ.out _) WY rfl (by rw[bg];exact bY),fun k n h=>by rw[HF.out]at h;cases h;rfl,fun h=>absurd (HF.out.symm.trans h) vsi,PK.Below.setRow HB.out w.heap.size (R3 _) _⟩
     ·have f:((Hu m).toList==s.toList)=false:=PC he
      have HN:Hid (∀j,j<m+1→Hu j≠s):=fun j hj=>by
       by_cases e:j=m
       ·rw[e];exact he
       ·exact HJ.out j vom
      generalize Hu m=NM at *;clear he HJ
      go_wp2_with fail
      go_roundw
      case rel=>exact⟨m+1,a.out,by go_num,HN,by first|rfl|trivial⟩
      case measure=>have:=a.out;simp[intOf]<;>omega
    ·obtain rfl:m=5:=vom
     have HF:Hid (FL s=none):=by rw[Hid,d.out,nu HJ.out];rfl
     have b:=HQ.out;clear HJ d
     go_wp2_with (first|refine qL rfl 37 [] rfl [] rfl _ NJ ?_|refine Wk rfl 37 _ _ rfl w.heap.size (eG 0 0 ⟨#[]⟩ (.slice none 0 0) (.slice none 0 0) (.slice none 0 0) (.slice none 0 0) (fun _=>0) (fun _=>0)) rfl rfl 37 _ b (by rw[bg];exact bY) (by rw[bg]) (eU rfl rfl rfl rfl) ?_)
     exact⟨rfl,_,aF rfl _ _ w.heap.size 37 (eG 0 0 ⟨#[]⟩ (.slice none 0 0) (.slice none 0 0) (.slice none 0 0) (.slice none 0 0) (fun _=>0) (fun _=>0)) (0,0) _ _ rfl rfl (af.row HQ.out _) WY rfl (by rw[bg];exact bY),fun k n h=>absurd (HF.out.symm.trans h) vsi,fun _=>rfl,PK.Below.setRow HB.out w.heap.size (R3 _) _⟩
end
section
open Go.RowKit PK
theorem tX{n:String}{bs:List (List UInt8)}{r:List (String×DataW Unit)}{W:V8}{g k:Nat}{t:Wj}(h:laidMet qf ((n,.agg (bs.map fun b=>.lit (.string b))) :: r) W)(hg0:qf.globalNamed n=some g)(ht0:(qf.globals[g]?).map (·.type)=some t)(hu:qf.underlying t=some (.array k 9))(hk:bs.length=k):W.rangeAt g 0 (bs.map fun b=>Value.string ⟨b.toArray⟩):=by
 obtain⟨ps,⟨g,t,cs,fuel,p,q,hg,ht,hv,hd,_,_⟩,_,_⟩:=h;obtain rfl:=XG (hg0.symm.trans hg);obtain rfl:=XG (ht0.symm.trans ht);obtain⟨xs,m,_,ex,_,hl,a⟩:=DataW.trod_array hu hd;have c9:qf.cellsOf 9=1:=vkr;intro i v hvi
 have hi:i<k:=by
  have:=(WW.1 hvi).1;rw[List.length_map]at this;omega
 have hE:=a i hi;rw[c9,Nat.mul_one,Wu vom]at hE;obtain⟨z,e1,e2,_⟩:=DataW.trod_string YW hE;have e3:(xs.map (·.1))=bs.map fun b=>.lit (.string b):=(DataW.agg.inj (Prod.mk.inj ex).1).symm;have e4:(xs.map (·.1))[i]?=(bs.map fun b=>(DataW.lit (.string b):DataW Unit))[i]?:=by rw[e3]
 rw[List.getElem?_map,List.getElem?_map,Wu (by omega:i<xs.length),Wu (by omega:i<bs.length),e2]at e4;rw[List.getElem?_map,Wu (by omega:i<bs.length)]at hvi;simp only[Option.map_some,Option.some.injEq,DataW.lit.injEq,Lit.string.injEq]at e4 hvi;rw[WN,World.var?_cell hg hv i,←hvi,←e4]
 have:cs.toList[i]?=some (.string z):=by
  have h0:((cs.toList.drop i).take 1)[0]?=some (.string z):=by rw[e1];rfl
  simpa using h0
 simpa using this
theorem Ns : qf.globalNamed "blackroom/script.kinds" = some 0 := by kernel_rfl
theorem RD : qf.globalNamed "blackroom/script.tableaux" = some 1 := by kernel_rfl
theorem Mb:(qf.globals[0]?).map (·.type)=some 178:=vkr
theorem NU:(qf.globals[1]?).map (·.type)=some 179:=vkr
theorem K9 : qf.globalNamed "strconv.ErrRange" = some jo := by kernel_rfl
theorem M8:(qf.globals[jo]?).map (·.type)=some 182:=vkr
theorem D3 {r : List (String × DataW Unit)} {W : V8} (h : laidMet qf (("blackroom/script.kinds", Rows.laid_blackroom_script_kinds) :: r) W) : W.rangeAt 0 0 Rq.toList := by
 have:=tX (bs:=[[],[109,111,118,101],[],[114,97,105,108],[99,111,108,117,109,110,115],[104,105,108,108],[114,111,116,111,114]]) h Ns Mb Tryz.underlying178 rfl;rw[show Rq.toList=List.map (fun b:List UInt8=>Value.string ⟨b.toArray⟩) [[],[109,111,118,101],[],[114,97,105,108],[99,111,108,117,109,110,115],[104,105,108,108],[114,111,116,111,114]] by kernel_rfl];exact this
theorem G9 {r : List (String × DataW Unit)} {W : V8} (h : laidMet qf (("blackroom/script.tableaux", Rows.laid_blackroom_script_tableaux) :: r) W) : W.rangeAt 1 0 Ss.toList := by
 have:=tX (bs:=[[],[118,105,103,101,110,101,114,101],[98,101,97,117,102,111,114,116],[118,97,114,105,97,110,116],[97,117,116,111,107,101,121]]) h RD NU Tryz.underlying179 rfl;rw[show Ss.toList=List.map (fun b:List UInt8=>Value.string ⟨b.toArray⟩) [[],[118,105,103,101,110,101,114,101],[98,101,97,117,102,111,114,116],[118,97,114,105,97,110,116],[97,117,116,111,107,101,121]] by kernel_rfl];exact this
theorem Hv {r : List (String × DataW Unit)} {W : V8} (h : laidMet qf (("strconv.ErrRange", Rows.laid_strconv_ErrRange) :: r) W) : ia W := by
 obtain⟨ps,⟨g,t,cs,fuel,p,q,hg,ht,hv,hd,_,_⟩,_,_⟩:=h;obtain rfl:=XG (K9.symm.trans hg);obtain rfl:=XG (M8.symm.trans ht);obtain⟨f1,u,v,e,_⟩:=iface_of_trod Tryz.underlying182 hd;refine⟨.iface u v,?_,.inr ⟨u,v,rfl⟩⟩;have:=World.var?_cell K9 hv 0;rw[Array.eq_one_of_toList e]at this;simpa using this
end
namespace Nm
open Go Go.Conc
def Vy(m:Mark):Prop:=m=.noRoom∨∃f,m=.extern f
def y6(size:Nat)(e:Ym):Prop:=match e.loc with
 |.cell a=>a.block<size
 |.obj q=>q<size
 |.mark m=>(Vy m∨m=.disable∨m=.enable)∧e.sync=true
 |_=>True
theorem y6.up{a b:Nat}(h:a≤b){e:Ym}(k:y6 a e):y6 b e:=by
 obtain⟨l,x,y⟩:=e;cases l with
 |cell p=>exact WE k h
 |obj q=>exact WE k h
 |output=>trivial
 |goroutines=>trivial
 |mark m=>exact k
theorem size_set(w:V8)(a:Addr)(v:R2):(w.setCell a v).heap.size=w.heap.size:=by simp[World.setCell]
theorem su(w:V8)(a:Addr)(n:Nat):(w.freeze a n).heap.size=w.heap.size:=by
 unfold World.freeze;split<;>simp
theorem MB{α:Type}(a:Ask α):∀w:V8,(w.ask a).2.heap=w.heap:=by
 induction a with
 |done a=>exact fun _=>rfl
 |ask what range k ih=>
  intro w;unfold World.ask;dsimp only;split
  ·exact ih 0 w
  ·exact ih _ _
theorem Ag(w:V8)(c:Sys):(w.sys c).2.heap=w.heap:=by
 unfold World.sys;have h:=MB (Kernel.perform c w.os) w;split
 ·rfl
 ·next e=>rw[e]at h;exact h
theorem Ch{w:V8}{a:Addr}{v:R2}(h:w.cell? a=some v):a.block<w.heap.size:=by
 unfold World.cell? at h;split at h
 ·next e=>exact(Wd.1 e).1
 ·cases h
theorem Ae{P:Wr}{w:V8}{at_:Addr}{u:Wj}{k:Addr}{at0:Bool}{r}(h:w.seen P at_ u k at0=.ok r):at_.block<w.heap.size:=by
 unfold World.seen at h;simp only[bind,Except.bind,pure,Except.pure]at h
 repeat' first
  |(cases h;done)
  |(rename_i e;exact(Wd.1 e).1)
  |split at h
theorem Ay{P:Wr}{w:V8}{a:Addr}{b:Bool}{v:R2}{l:List Addr}(h:w.farLoad P a b=.ok (v,l)):∀x∈l,x.block<w.heap.size:=by
 unfold World.farLoad at h;split at h
 ·next at_ u _=>
  split at h
  ·next r e=>
   cases h;unfold World.viewLoad at e;cases hs:w.seen P at_ u a b with
   |error x=>rw[hs]at e;cases e
   |ok r=>
    have hl:=Ae hs;rw[hs]at e;simp only[bind,Except.bind]at e;split at e
    ·cases e
     intro x hx;obtain⟨_,_,rfl⟩:=Yh.1 hx;exact hl
    ·cases e
  ·cases h
 ·cases h
theorem pJ{P:Wr}{w w':V8}{a:Addr}{v:R2}{b:Bool}{l:List Addr}(h:w.farStore P a v b=.ok (w',l)):w'.heap.size=w.heap.size∧∀x∈l,x.block<w.heap.size:=by
 unfold World.farStore at h;split at h
 ·next at_ u _=>
  split at h
  ·next r e=>
   cases h;unfold World.viewStore at e;cases hs:w.seen P at_ u a b with
   |error x=>
    rw[hs]at e;simp only[bind,Except.bind]at e;split at e<;>cases e
   |ok r=>
    have hl:=Ae hs;rw[hs]at e;simp only[bind,Except.bind,pure,Except.pure]at e;split at e
    ·cases e
    ·split at e
     ·split at e
      ·cases e
      ·split at e
       ·cases e
       ·cases e
        refine⟨vsi,fun x hx=>?_⟩;obtain⟨_,_,rfl⟩:=Yh.1 hx;exact hl
     ·cases e
  ·cases h
 ·cases h
def zg{α:Type}(P:Wr):Sem α→(α→Prop)→Prop
 |.pure a,Q=>Q a
 |.load _ _ k,Q=>∀v,zg P (k v) Q
 |.store _ _ _ k,Q=>zg P k Q
 |.new _ k,Q=>∀n,zg P (k n) Q
 |.shape _ k,Q=>∀n,zg P (k n) Q
 |.freeze _ _ k,Q=>zg P k Q
 |.frozen _ k,Q=>∀n,zg P (k n) Q
 |.getObj _ k,Q=>∀n,zg P (k n) Q
 |.setObj _ _ k,Q=>zg P k Q
 |.choose _ k,Q=>∀n,zg P (k n) Q
 |.sys _ k,Q=>∀n,zg P (k n) Q
 |.program k,Q=>zg P (k P) Q
 |.mark m k,Q=>Vy m∧zg P k Q
 |.halt _,_=>True
def lG(es0 es:Array Ym)(w w':V8):Prop:=w.heap.size≤w'.heap.size∧(∀x∈es,x∈es0∨y6 w'.heap.size x)∧∀d,deafBehind d es=deafBehind d es0
theorem lG.refl(es:Array Ym)(w w':V8)(h:w.heap.size≤w'.heap.size):lG es es w w':=⟨h,fun _ he=>.inl he,fun _=>rfl⟩
theorem lG.trans{es0 es1 es2:Array Ym}{w0 w1 w2:V8}(h:lG es0 es1 w0 w1)(k:lG es1 es2 w1 w2):lG es0 es2 w0 w2:=⟨Ws h.1 k.1,fun e he=>(k.2.1 e he).elim (fun he=>(h.2.1 e he).elim .inl fun x=>.inr (x.up k.1)) .inr,fun d=>(k.2.2 d).trans (h.2.2 d)⟩
theorem deaf_push(d:Nat)(es:Array Ym)(e:Ym):deafBehind d (es.push e)=deafBehind (deafBehind d es) #[e]:=by
 unfold deafBehind;simp
theorem AI(d:Nat)(es l:Array Ym):deafBehind d (es++l)=deafBehind (deafBehind d es) l:=by
 unfold deafBehind;simp
theorem lG.push{es:Array Ym}{w w':V8}(h:w.heap.size≤w'.heap.size){e:Ym}(he:y6 w'.heap.size e)(hm:∀d,deafBehind d #[e]=d):lG es (es.push e) w w':=⟨h,fun x hx=>by
 rcases Array.mem_push.1 hx with hx|rfl
 ·exact .inl hx
 ·exact .inr he,fun d=>by rw[deaf_push,hm]⟩
theorem lG.cells{es:Array Ym}{w w':V8}(h:w.heap.size≤w'.heap.size)(l:List Addr)(wr sy:Bool)(hl:∀x∈l,x.block<w'.heap.size):lG es (es++l.toArray.map (⟨.cell ·,wr,sy⟩)) w w':=⟨h,fun x hx=>by
 rcases Array.mem_append.1 hx with hx|hx
 ·exact .inl hx
 ·obtain⟨a,ha,rfl⟩:=Array.mem_map.1 hx
  exact .inr (show a.block<_ from hl a (by simpa using ha)),fun d=>by
 rw[AI];generalize deafBehind d es=c;unfold deafBehind;simp only[List.map_toArray,List.size_toArray,List.length_map,List.foldl_toArray'];clear hl
 induction l with
 |nil=>rfl
 |cons a l ih=>simpa using ih⟩
def uA:Halt→Bool
 |.panic _|.goexit|.fatal _|.throw _=>true
 |_=>false
def Gr{α:Type}(P:Wr)(s:Sem α)(Q:α→Prop):Prop:=∀w es0,match s.runT P w es0 with
 |(.ok a w',es)=>Q a∧lG es0 es w w'
 |(.halt h w',es)=>w.heap.size≤w'.heap.size∧(uA h=true→lG es0 es w w')
theorem dM{α:Type}{P:Wr}{s:Sem α}{Q:α→Prop}{w w1:V8}{es0 es1:Array Ym}(l:lG es0 es1 w w1)(h:match s.runT P w1 es1 with
 |(.ok a w',es)=>Q a∧lG es1 es w1 w'
 |(.halt h w',es)=>w1.heap.size≤w'.heap.size∧(uA h=true→lG es1 es w1 w')):match s.runT P w1 es1 with
 |(.ok a w',es)=>Q a∧lG es0 es w w'
 |(.halt h w',es)=>w.heap.size≤w'.heap.size∧(uA h=true→lG es0 es w w'):=by
 revert h
 cases s.runT P w1 es1 with
 |mk r es=>cases r with
  |ok a w'=>exact fun h=>⟨h.1,l.trans h.2⟩
  |halt x w'=>exact fun h=>⟨Ws l.1 h.1,fun e=>l.trans (h.2 e)⟩
theorem hl{x:Halt}{es0:Array Ym}{w:V8}:w.heap.size≤w.heap.size∧(uA x=true→lG es0 es0 w w):=⟨R3 _,fun _=>lG.refl _ _ _ (R3 _)⟩
theorem sG{α:Type}{P:Wr}{Q:α→Prop}(s:Sem α):zg P s Q→Gr P s Q:=by
 induction s with
 |pure a=>exact fun h w es0=>⟨h,lG.refl _ _ _ (R3 _)⟩
 |load m a k ih=>
  intro h w es0;unfold Sem.runT;cases hc:w.cell? a with
  |some v=>exact dM (lG.push (R3 _) (Ch hc) fun _=>rfl) (ih v (h v) w _)
  |none=>
   cases hf:w.farLoad P a (m==Zg)with
   |ok r=>exact dM (lG.cells (R3 _) r.2 _ _ (Ay (v:=r.1) (l:=r.2) hf)) (ih r.1 (h r.1) w _)
   |error x=>exact hl
 |store m a v k ih=>
  intro h w es0
  have key:match(match w.cell? a with
   | some _ => if w.frozen? a then (Result.halt (.unsupported (.unsafePointer "a write to bytes that a string shares")) w, es0) else k.runT P (w.setCell a v) (es0.push ⟨.cell a, true, m == Zg⟩)
   |none=>match w.farStore P a v (m==Zg)with
    |.ok (w,touched)=>k.runT P w (es0++touched.toArray.map fun x=>(⟨.cell x,true,m==Zg⟩:Ym))
    |.error h=>(.halt h w,es0))with
   |(.ok a w',es)=>Q a∧lG es0 es w w'
   |(.halt h w',es)=>w.heap.size≤w'.heap.size∧(uA h=true→lG es0 es w w'):=by
   cases hc:w.cell? a with
   |some v0=>
    dsimp only;by_cases hz:w.frozen? a=true
    ·rw[Wc hz]
     exact hl
    ·rw[V9 hz]
     exact dM (lG.push (by rw[size_set];exact R3 _) (by rw[size_set];exact Ch hc) fun _=>rfl) (ih h _ _)
   |none=>
    dsimp only;cases hf:w.farStore P a v (m==Zg)with
    |ok r=>
     obtain⟨w1,l⟩:=r;obtain⟨h1,h2⟩:=pJ hf;exact dM (lG.cells (by rw[h1];exact R3 _) l _ _ (by rw[h1];exact h2)) (ih h _ _)
    |error x=>exact hl
  cases v<;>first
   |exact key
   |exact hl
 |new o k ih=>exact fun h w es0=>dM (w1:={ w with heap:=w.heap.push o }) (lG.refl _ _ _ vsi) (ih _ (h _) _ _)
 |shape r k ih=>exact fun h w es0=>ih _ (h _) w _
 |freeze a n k ih=>exact fun h w es0=>dM (w1:=w.freeze a n) (lG.refl _ _ _ (by rw[su];exact R3 _)) (ih h _ _)
 |frozen a k ih=>exact fun h w es0=>ih _ (h _) w _
 |getObj r k ih=>
  intro h w es0;unfold Sem.runT;cases hc:w.heap[r]? with
  |none=>exact hl
  |some o=>
   have hl':=(Wd.1 hc).1
   cases o<;>first
    |exact hl
    |exact dM (lG.push (R3 _) hl' fun _=>rfl) (ih _ (h _) w _)
 |setObj r o k ih=>
  intro h w es0;unfold Sem.runT;cases hc:w.heap[r]? with
  |none=>exact hl
  |some o2=>
   have hl':=(Wd.1 hc).1
   cases o2<;>first
    |exact hl
    |exact dM (w1:={ w with heap:=w.heap.setIfInBounds r o }) (lG.push vsi (by simpa[y6]using hl') fun _=>rfl) (ih h _ _)
 |choose q k ih=>
  intro h w es0;unfold Sem.runT;by_cases hz:q.forced=true
  ·rw[Wc hz]
   exact ih _ (h _) w _
  ·rw[V9 hz]
   exact dM (w1:={ w with drawn:=w.drawn+1 }) (lG.refl _ _ _ (R3 _)) (ih _ (h _) _ _)
 |sys c k ih=>
  intro h w es0;exact dM (w1:=(w.sys c).2) (lG.push (by rw[Ag];exact R3 _) trivial fun _=>rfl) (ih _ (h _) _ _)
 |program k ih=>exact fun h w es0=>ih P h w _
 |mark m k ih=>
  intro h w es0;obtain⟨hm,hk⟩:=h;unfold Sem.runT;refine dM (w1:=w) (lG.push (e:=⟨.mark m,false,true⟩) (R3 _) ⟨Or.inl hm,rfl⟩ fun d=>?_) (ih hk w (es0.push ⟨.mark m,false,true⟩));rcases hm with rfl|⟨f,rfl⟩<;>rfl
 |halt x=>exact fun _ w es0=>hl
theorem cC{α β:Type}{P:Wr}{s:Sem α}{f:α→Sem β}{Q:α→Prop}{R:β→Prop}(h:Gr P s Q)(hf:∀a,Q a→Gr P (f a) R):Gr P (s >>= f) R:=fun w es0=>by
 have e:(s >>= f).runT P w es0=_:=Sem.runT_bind' P s f w es0;have h1:=h w es0;rw[e]
 revert h1
 cases s.runT P w es0 with
 |mk r es=>cases r with
  |ok a w'=>exact fun h1=>dM h1.2 (hf a h1.1 w' es)
  |halt x w'=>exact fun h1=>h1
end Nm
end Go.Proofs.YtpcnpkhgjanamaaGreatDoor
