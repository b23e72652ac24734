import Derived.Test.YtpcnpkhgjanamaaGreatDoorPz
import Derived.Test.YtpcnpkhgjanamaaGreatDoorJn17
namespace Go.Proofs.YtpcnpkhgjanamaaGreatDoor
open Go.Proofs.Tryz renaming prog→qf,underlying33→Wp
open Go renaming Value→R2,World→V8,Calls→WA
open Go.RowKit renaming Below→Wh
set_option maxRecDepth 100000
set_option maxHeartbeats 2000000
section
open Go.RowKit PK Vg
def gO(l:List UInt8)(i:Nat):Int:=if i<l.length then((Vg.num (l.getD i 0):Nat):Int)else 0
def SM:List UInt8:=[89,82,85,72,81,83,76,68,80,88,78,71,79,75,77,73,69,66,70,90,67,87,86,74,65,84]
def SQ:List UInt8:=[70,86,80,74,73,65,79,89,69,68,82,90,88,87,71,67,84,75,85,81,83,66,78,77,72,76]
def C8(name:List UInt8):Nat→Int:=if name=[66]then gO SM else if name=[67]then gO SQ else fun _=>0
def C5(name:List UInt8):Int:=if name=[66]∨name=[67]then 0 else 7
theorem od{l:List UInt8}(h:(l.all fun c=>decide (65≤c.toNat∧c.toNat≤90))=true):Ls l:=fun c hc=>by
 have:=Yv.1 h c hc;simpa using this
theorem kH(A:List UInt8)(t:ByteArray):(t.toList==A)=decide (t.data.toList=A):=by
 rw[mS];by_cases h:t.data.toList=A
 ·rw[YA h,h];simp
 ·rw[YF h];exact XR h
def SF:List UInt8:=[69,75,77,70,76,71,68,81,86,90,78,84,79,87,89,72,88,85,83,80,65,73,66,82,67,74]
def SN:List UInt8:=[65,74,68,75,83,73,82,85,88,66,76,72,87,84,77,67,81,71,90,78,80,89,70,86,79,69]
def SU:List UInt8:=[66,68,70,72,74,76,67,80,82,84,88,86,90,78,89,69,73,87,71,65,75,77,85,83,81,79]
def SG:List UInt8:=[69,83,79,86,80,90,74,65,89,81,85,73,82,72,88,76,78,70,84,71,75,68,67,77,87,66]
def SL:List UInt8:=[86,90,66,82,71,73,84,89,85,80,83,68,78,72,76,88,65,87,77,74,81,79,70,69,67,75]
def VE:List (List UInt8×List UInt8×Nat):=[([73],SF,16),([73,73],SN,4),([73,73,73],SU,21),([73,86],SG,9),([86],SL,25)]
def Ra(name:List UInt8):Option (List UInt8×List UInt8×Nat):=VE.find? fun x=>x.1==name
def sM(name:List UInt8):Nat→Int:=match Ra name with
 |some x=>gO x.2.1
 |none=>fun _=>0
def qI(name:List UInt8):List Nat:=match Ra name with
 |some x=>[x.2.2]
 |none=>[]
def tg(name:List UInt8):Int:=match Ra name with
 |some _=>0
 |none=>7
theorem IX(f:Nat→Int)(a:Option Addr)(n c:Nat):qf.built 154 [(0,.agg (ints 26 f)),(1,.slice a n c)]=some (b6 f (.slice a n c)):=vkr
theorem DZ:qf.built 154 []=some (b6 (fun _=>0) (.slice none 0 0)):=vkr
theorem Oz{name:List UInt8}(h:∀i,i<5→(VE.getD i ([],[],0)).1≠name):Ra name=none:=by
 unfold Ra;rw[List.find?_eq_none];intro x hx hb;obtain⟨i,hi,e⟩:=YB.1 hx;have h1:=h i hi;rw[Xu,Wu hi,e]at h1;exact h1 (eq_of_beq hb)
theorem jL{W:V8}{v:R2}{n:Nat}{f:Nat→Int}(h:aq W v n f)(g:Nat)(c:Array R2)(hne:v.ownBlock≠some g):aq (W.setRow g c) v n f:=by
 obtain⟨a,cap,rfl,h2,h3⟩:=h;refine⟨a,cap,rfl,h2,fun i hi=>?_⟩;obtain⟨b,o,rfl,d⟩:=h3 i hi;exact⟨b,o,rfl,(cell_setRow_other W g c ⟨b,o+i,none⟩ (fun e=>hne (XI some e))).trans d⟩
theorem MJ(W:V8)(x:Nat):aq (W.alloc (.cells #[.int .i64 (x:Nat)] 3)) (.slice (some ⟨W.heap.size,0,none⟩) 1 1) [x].length (fun i=>(([x].getD i 0:Nat):Int)):=
 ⟨_,1,rfl,(by decide:1≤maxLen),fun c hc=>⟨W.heap.size,0,rfl,by
  have a:c=0:=by simpa using hc
  subst a;exact(af.new W 3 #[.int .i64 (x:Nat)]).cell rfl⟩⟩
theorem oF(s:ByteArray)(hl:Ls s.data.toList)(hs:s.size=26)(w:V8):WA qf 161 #[.string s] w fun e w'=>e=.returned (.agg (ints 26 (gO s.data.toList)))∧Wh w.heap.size w w':=by
 have h:=bR dG;have h0:=rJ.new w;have HL:Hid (Ls s.data.toList):=hl;have n:=Pl.aN s;go_enter Tryz.func161,Tryz.ntmps161
 go_wp2_with fail
 clear h;go_loopw [5] (fun i V=>∃k:Nat,k≤26∧i=.int .i64 (k:Nat)∧rJ w V fun c=>if c<k then gO s.data.toList c else 0) (fun i _=>((26:Int)-intOf i).toNat)
 case atStart=>exact⟨0,vom,rfl,by simpa using h0⟩
 case round=>
  clear h0;obtain⟨k,hk,rfl,hg⟩:=hrel;by_cases hlt:k<26
  ·have b:Hid (k<26):=hlt
   have u:(k:Int)<(s.size:Int):=vom;have j:k<s.size:=vom;have a:=HL.out.at (mW j);have m:s[k]=s.data.toList.getD k 0:=(fI s k j).symm;have d:gO s.data.toList k=((Vg.num (s.data.toList.getD k 0):Nat):Int):=by unfold gO;rw[Wc vom]
   have f:Hid (∀V,rJ w V (fun c=>if c<k then gO s.data.toList c else 0)→rJ w (V.setCell ⟨w.heap.size+1,k,none⟩ (.int .i64 (Vg.num (s.data.toList.getD k 0):Nat))) fun c=>if c<k+1 then gO s.data.toList c else 0):=fun V hg=>by
    have:=hg.set k (Vg.num (s.data.toList.getD k 0):Nat)
    have e:upd (fun c=>if c<k then gO s.data.toList c else 0) k (Vg.num (s.data.toList.getD k 0):Nat)=fun c=>if c<k+1 then gO s.data.toList c else 0:=by
     funext i
     unfold upd;by_cases e:i=k
     ·rw[Wc e,Wc vom,e,d]
     ·rw[V9 e]
      show(if i<k then gO s.data.toList i else 0)=_;by_cases e2:i<k
      ·rw[Wc e2,Wc vom]
      ·rw[V9 e2,V9 vom]
    rw[e]at this;exact this
   clear d;have t:=hg.o.cell (aB (fun c=>if c<k then gO s.data.toList c else 0) hlt);have q:=hg.o.frozen k;generalize s.data.toList.getD k 0=x at *;have HX:Hid _:=a;have HG:Hid _:=f.out _ hg;clear a hg f
   go_wp2_with fail
   refine(oq x HX.out _).mono ?_;rintro e V ⟨rfl,rfl⟩;generalize Vg.num x=nx at *;clear m;go_wp2;go_roundw
   case rel=>exact⟨k+1,b.out,by go_num,HG.out⟩
   case measure=>have:=b.out;simp[intOf];omega
  ·obtain rfl:k=26:=vom
   have hr:=hg.r
   have ho:af wr (w.heap.size+1) 33 (ints 26 (gO s.data.toList)):=by
    have:=hg.o;rw[b8 (g:=gO s.data.toList) fun i hi=>by rw[Wc hi]]at this;exact this
   have l:=hg.below;clear hg
   go_wp2_with (first|refine Wn rfl 33 _ rfl (w.heap.size+1) rfl 33 (ints 26 (gO s.data.toList)) (0,0) _ ho Wp rfl (by rw[ag];exact aj) ?_|refine Wk rfl 33 _ _ rfl w.heap.size (ints 26 (gO s.data.toList)) rfl rfl 33 _ hr (by rw[ag];exact aj) (by simp only[ag]) (aI _ _) ?_)
   exact WL (v:=.agg (ints 26 (gO s.data.toList))) (j4 Tryz.results161 _ _ _ _ _ _ _ rfl (hr.row _) Wp rfl (by rw[ag];exact aj)) rfl ⟨rfl,Below.setRow l _ (R3 _) _⟩
theorem gN(s:ByteArray)(hl:Ls s.data.toList)(hs:s.size=26)(x:UInt8)(hx:65≤x.toNat∧x.toNat≤90)(w:V8):WA qf 160 #[.string s,.int .u8 (x.toNat:Nat)] w fun e w'=>∃B,e=.returned (.agg (b6 (gO s.data.toList) (.slice (some ⟨B,0,none⟩) 1 1)))∧w.heap.size≤B∧aq w' (.slice (some ⟨B,0,none⟩) 1 1) [Vg.num x].length (fun i=>(([Vg.num x].getD i 0:Nat):Int))∧Wh w.heap.size w w':=by
 have d:=bR iL;have a:=af.new w 154 (b6 (fun _=>0) (.slice none 0 0));have b:Wh w.heap.size w (w.alloc (.cells (b6 (fun _=>0) (.slice none 0 0)) 154)):=(Below.refl _ w).alloc (R3 _) _;have HP:Hid (∀W,WA qf 161 #[.string s] W fun e w'=>e=.returned (.agg (ints 26 (gO s.data.toList)))∧Wh W.heap.size W w'):=fun W=>oF s hl hs W;have HX:Hid _:=hx;clear hx hl hs;go_enter Tryz.func160,Tryz.ntmps160
 go_wp2_with fail
 refine(HP.out _).mono ?_;rintro e V ⟨rfl,hb⟩;have g:=a.below hb a.lt;have c:=b.trans (hb.mono b.size);have j:=g.lt;clear hb a b HP d
 go_wp2_with fail
 refine(oq x HX.out _).mono ?_;rintro e V2 ⟨rfl,rfl⟩;have HN:Hid _:=MJ V (Vg.num x);have f:=g.alloc (.cells #[.int .i64 (Vg.num x:Nat)] 3);have h:=c.alloc c.size (.cells #[.int .i64 (Vg.num x:Nat)] 3)
 go_wp2_with (first|refine fe rfl 154 [(0,.tmp 6),(1,.tmp 9)] rfl [(0,.agg (ints 26 (gO s.data.toList))),(1,.slice (some ⟨V.heap.size,0,none⟩) 1 1)] rfl _ (IX (gO s.data.toList) _ 1 1) ?_|refine Wk rfl 154 _ _ rfl w.heap.size (b6 (gO s.data.toList) (.slice (some ⟨V.heap.size,0,none⟩) 1 1)) rfl rfl 154 _ f (by rw[aO];exact bn) (by simp only[aO]) (gC rfl) ?_)
 exact WL (v:=.agg (b6 (gO s.data.toList) (.slice (some ⟨V.heap.size,0,none⟩) 1 1))) (j4 Tryz.results160 _ _ _ _ _ _ _ rfl (f.row _) Tryz.underlying154 rfl (by rw[aO];exact bn)) rfl ⟨V.heap.size,rfl,vom,jL HN.out _ _ (by intro e;injection e with e;exact absurd e (by show ¬V.heap.size=w.heap.size;omega)),Below.setRow h _ (R3 _) _⟩
theorem CF(name:ByteArray)(w:V8):WA qf 136 #[.string name] w fun e w'=>e=.returned (.tuple #[.agg (ints 26 (C8 name.data.toList)),.int .i64 (C5 name.data.toList)])∧Wh w.heap.size w w':=by
 have f:=bR dG;have b:=af.new w 33 (ints 26 fun _=>0);have c:Wh w.heap.size w (w.alloc (.cells (ints 26 fun _=>0) 33)):=(Below.refl _ w).alloc (R3 _) _;have hB:Hid (∀W,WA qf 161 #[.string ⟨#[89,82,85,72,81,83,76,68,80,88,78,71,79,75,77,73,69,66,70,90,67,87,86,74,65,84]⟩] W fun e w'=>e=.returned (.agg (ints 26 (gO SM)))∧Wh W.heap.size W w'):=fun W=>oF ⟨SM.toArray⟩ (od vde) vde W;have hC:Hid (∀W,WA qf 161 #[.string ⟨#[70,86,80,74,73,65,79,89,69,68,82,90,88,87,71,67,84,75,85,81,83,66,78,77,72,76]⟩] W fun e w'=>e=.returned (.agg (ints 26 (gO SQ)))∧Wh W.heap.size W w'):=fun W=>oF ⟨SQ.toArray⟩ (od vde) vde W;have q1:=kH [66] name;have q2:=kH [67] name;by_cases h1:name.data.toList=[66]
 ·have HP:Hid (C8 name.data.toList=gO SM):=by unfold C8;rw[Hid,Wc h1]
  have HE:Hid (C5 name.data.toList=0):=by unfold C5;rw[Hid,Wc (.inl h1)]
  rw[YA h1]at q1;clear h1 q2 hC;go_enter Tryz.func136,Tryz.ntmps136
  go_wp2_with fail
  refine(hB.out _).mono ?_;rintro e W1 ⟨rfl,hb⟩;have a:=b.below hb b.lt;have d:=c.trans (hb.mono c.size);clear hb hB b c
  go_wp2_with (first|refine Wk rfl 33 _ _ rfl w.heap.size (ints 26 (gO SM)) rfl rfl 33 _ a (by rw[ag];exact aj) (by simp only[ag]) (aI _ _) ?_)
  exact WL (v:=.tuple #[.agg (ints 26 (gO SM)),.int .i64 0]) (aF rfl _ _ w.heap.size 33 _ (0,0) _ _ rfl rfl (a.row _) Wp rfl (by rw[ag];exact aj)) rfl ⟨by rw[HP.out,HE.out],Below.setRow d _ (R3 _) _⟩
 ·rw[YF h1]at q1
  by_cases h2:name.data.toList=[67]
  ·have HP:Hid (C8 name.data.toList=gO SQ):=by unfold C8;rw[Hid,V9 h1,Wc h2]
   have HE:Hid (C5 name.data.toList=0):=by unfold C5;rw[Hid,Wc (.inr h2)]
   rw[YA h2]at q2;clear h1 h2 hB;go_enter Tryz.func136,Tryz.ntmps136
   go_wp2_with fail
   refine(hC.out _).mono ?_;rintro e W1 ⟨rfl,hb⟩;have a:=b.below hb b.lt;have d:=c.trans (hb.mono c.size);clear hb hC b c
   go_wp2_with (first|refine Wk rfl 33 _ _ rfl w.heap.size (ints 26 (gO SQ)) rfl rfl 33 _ a (by rw[ag];exact aj) (by simp only[ag]) (aI _ _) ?_)
   exact WL (v:=.tuple #[.agg (ints 26 (gO SQ)),.int .i64 0]) (aF rfl _ _ w.heap.size 33 _ (0,0) _ _ rfl rfl (a.row _) Wp rfl (by rw[ag];exact aj)) rfl ⟨by rw[HP.out,HE.out],Below.setRow d _ (R3 _) _⟩
  ·have HP:Hid (C8 name.data.toList=fun _=>0):=by unfold C8;rw[Hid,V9 h1,V9 h2]
   have HE:Hid (C5 name.data.toList=7):=by unfold C5;rw[Hid,V9 (fun h=>h.elim h1 h2)]
   rw[YF h2]at q2;clear h1 h2 hB hC;have a:=b;go_enter Tryz.func136,Tryz.ntmps136
   go_wp2_with (first|refine cS rfl 33 rfl _ Ei ?_|refine Wk rfl 33 _ _ rfl w.heap.size (ints 26 fun _=>0) rfl rfl 33 _ a (by rw[ag];exact aj) (by simp only[ag]) (aI _ _) ?_)
   exact WL (v:=.tuple #[.agg (ints 26 fun _=>0),.int .i64 7]) (aF rfl _ _ w.heap.size 33 _ (0,0) _ _ rfl rfl (a.row _) Wp rfl (by rw[ag];exact aj)) rfl ⟨by rw[HP.out,HE.out],Below.setRow c _ (R3 _) _⟩
end
section
open Go.RowKit PK
def mC(a:Nat→Nat)(v:Nat→Int):Nat→Nat→Int
 |0=>fun _=>0
 |k+1=>upd (mC a v k) (a k) (v k)
theorem Bb(m:Nat)(cap:Array R2)(a:Nat→Nat)(v:Nat→Int)(ha:∀i,i<26→a i<26)(w:V8)(hent:∀(args:Array R2) (W:V8),(callFunc m args).run qf W=.ok (.enter m args) W)
  (hp:∀i,i<26→∀W:V8,Wh w.heap.size w W→WA qf m (#[.int .i64 (i:Nat)]++cap) W fun e w'=>e=.returned (.tuple #[.int .i64 (a i:Nat),.int .i64 (v i)])∧Wh W.heap.size W w') :
  WA qf 23 #[.func (.func m) #[] cap] w fun e w'=>e=.returned (.agg (ints 26 (mC a v 26)))∧Wh w.heap.size w w':=by
 have HP:Hid (∀i,i<26→∀W:V8,Wh w.heap.size w W→WA qf m (#[.int .i64 (i:Nat)]++cap) W fun e w'=>e=.returned (.tuple #[.int .i64 (a i:Nat),.int .i64 (v i)])∧Wh W.heap.size W w'):=hp;clear hp;go_enter Tryz.func23,Tryz.ntmps23;go_wp2;rw[oK];go_loopw [7] (fun i W=>∃k:Nat,k≤26∧i=.int .i64 k∧af W w.heap.size 33 (ints 26 fun _=>0)∧af W (w.heap.size+1) 33 (ints 26 (mC a v k))∧Wh w.heap.size w W) (fun i _=>(26-intOf i).toNat)
 case atStart=>
  refine⟨0,vom,rfl,(af.new w _ _).alloc _,?_,((Below.refl _ _).alloc (R3 _) _).alloc vsi _⟩;have:=af.new (w.alloc (Obj.cells (ints 26 fun _=>0) 33)) 33 (ints 26 fun x=>0);rw[WI]at this;exact this
 case round=>
  obtain⟨k,hk,rfl,b,d,hb⟩:=hrel;by_cases hlt:k<26
  ·have g:=ha k hlt
   have h:=hb.size;have h1:=d.lt;have HW:=HP.out k hlt wr hb;have HV:Hid (WA qf m (#[.int .i64 (k:Nat)]++cap) wr fun e w'=>e=.returned (.tuple #[.int .i64 (a k:Nat),.int .i64 (v k)])∧Wh wr.heap.size wr w'):=HW;clear HW;obtain⟨n,hn⟩:∃n:Nat,n=a k:=⟨_,rfl⟩
   rw[←hn]at HV g;have j:Hid (n=a k):=hn;clear hn
   go_wp2_with fail
   refine HV.out.mono ?_;rintro e w1 ⟨rfl,f⟩;have c:=d.below f h1;have hc:=c.cell (aB (mC a v k) g);have hf:=c.frozen n;go_wp2;go_roundw
   case rel=>
    refine⟨k+1,vom,by go_num,?_,?_,?_⟩
    ·exact(b.below f b.lt).setOther _ _ vsi
    ·have:=c.set n (.int .i64 (v k))
     rw[ints_set]at this;show af _ _ _ (ints 26 (upd (mC a v k) (a k) (v k)));rw[←j.out];exact this
    ·exact(hb.trans (f.mono h)).setCell vsi _
   case measure=>simp[intOf];omega
  ·have HK:Hid (k=26):=by rw[Hid];omega
   have h1:=d.lt
   go_wp2_with (first
    |refine Wn rfl 33 _ rfl (w.heap.size+1) rfl 33 (ints 26 (mC a v k)) (0,0) _ d Wp rfl (by rw[ag];exact aj) ?_
    |refine Wk rfl 33 _ _ rfl w.heap.size (ints 26 (mC a v k)) rfl rfl 33 _ b (by rw[ag];exact aj) (by simp only[ag]) (aI _ _) ?_)
   refine WL (v:=.agg (ints 26 (mC a v k))) (results_cell_row rfl _ _ w.heap.size 33 _ (0,0) _ rfl (b.row _) Wp rfl (by rw[ag];exact aj)) rfl ⟨by rw[HK.out],Below.setRow hb _ (R3 _) _⟩
theorem Ak(a:Nat→Nat)(v:Nat→Int)(hi:∀i j,i<26→j<26→a i=a j→i=j):∀k,k≤26→∀i,i<k→mC a v k (a i)=v i
 |0,_,i,h=>by omega
 |k+1,hk,i,h=>by
  show upd (mC a v k) (a k) (v k) (a i)=v i;by_cases e:i=k
  ·subst e;simp
  ·rw[cH _ _ (fun e2=>e (hi i k vom vom e2))]
   exact Ak a v hi k vom i vom
theorem L2(v:Nat→Int):ints 26 (mC (fun i=>i) v 26)=ints 26 v:=b8 fun j hj=>Ak (fun i=>i) v (fun _ _ _ _ e=>e) 26 (R3 _) j hj
theorem De(i:Int)(w:V8):WA qf 24 #[.int .i64 i] w fun e w'=>e=.returned (.tuple #[.int .i64 i,.int .i64 i])∧w=w':=by
 go_enter Tryz.func24,Tryz.ntmps24;go_wp2
 go_ret2
 exact⟨rfl,rfl⟩
theorem Hw(w:V8):WA qf 7 #[] w fun e w'=>e=.returned (.agg (ints 26 (Pm.up fun i=>i)))∧Wh w.heap.size w w':=by
 go_enter Tryz.func7,Tryz.ntmps7
 go_wp2_with fail
 rw[oK];refine(Bb 24 #[] (fun i=>i) (Pm.up fun i=>i) (fun _ h=>h) _ (by intro args W;go_simp) (fun i hi W _=>(De i W).mono ?_)).mono ?_
 ·rintro e w' ⟨rfl,rfl⟩
  exact⟨rfl,Below.refl _ _⟩
 ·rintro e w1 ⟨rfl,b⟩
  rw[L2];have a:=(af.new w 33 (ints 26 fun _=>0)).below b vsi
  go_wp2_with (refine Wk rfl 33 _ _ rfl w.heap.size (ints 26 (Pm.up fun i=>i)) rfl rfl 33 _ a (by rw[ag];exact aj) (by simp only[ag]) (aI _ _) ?_)
  exact WL (v:=.agg (ints 26 (Pm.up fun i=>i))) (results_cell_row rfl _ _ w.heap.size 33 _ (0,0) _ rfl (a.row _) Wp rfl (by rw[ag];exact aj)) rfl ⟨rfl,Below.setRow (((Below.refl _ _).alloc (R3 _) _).trans (b.mono vsi)) _ (R3 _) _⟩
def KQ(f g:Nat→Int):Nat→Nat→Int:=fun k=>if k=0 then f else g
theorem rR:qf.built 33 []=some (ints 26 fun _=>0):=vkr
structure Rd where
 p:Nat→Nat
 st:Nat→Bool
 op:Bool
 long:Nat
 first:Nat
 last:Nat
def dw(s:Rd)(i:Nat):R2:=
 if i<26 then .int .i64 (s.p i:Nat)else if i<52 then .bool (s.st (i-26))else if i=52 then .bool s.op else if i=53 then .int .i64 (s.long:Nat)else if i=54 then .int .i64 (s.first:Nat)else .int .i64 (s.last:Nat)
def bh(s:Rd):Array R2:=bJ 56 (dw s)
theorem tV(s:Rd)(i v:Nat)(hi:i<26):(bh s).setIfInBounds i (.int .i64 (v:Nat))=bh { s with p:=upd s.p i v }:=by
 unfold bh;rw[dY];refine cy fun j _=>?_;by_cases e:j=i
 ·subst e;simp[dw,hi]
 ·simp[upd,e,dw]
theorem yd(s:Rd)(i:Nat)(v:Bool)(hi:i<26):(bh s).setIfInBounds (26+i) (.bool v)=bh { s with st:=upd s.st i v }:=by
 unfold bh;rw[dY];refine cy fun j _=>?_;by_cases e:j=26+i
 ·subst e
  have h1:¬(26+i<26):=vom;have h2:26+i<52:=vom;simp[dw,h1,h2]
 ·by_cases h1:j<26
  ·simp[upd,e,dw,h1]
  ·have h3:¬(j-26=i):=vom
   simp[upd,e,dw,h1,h3]
theorem xq(s:Rd)(v:Bool):(bh s).setIfInBounds 52 (.bool v)=bh { s with op:=v }:=by
 unfold bh;rw[dY];refine cy fun j _=>?_;by_cases e:j=52
 ·subst e;simp[dw]
 ·simp[upd,e,dw]
theorem lR(s:Rd)(v:Nat):(bh s).setIfInBounds 53 (.int .i64 (v:Nat))=bh { s with long:=v }:=by
 unfold bh;rw[dY];refine cy fun j _=>?_;by_cases e:j=53
 ·subst e;simp[dw]
 ·simp[upd,e,dw]
theorem zH(s:Rd)(v:Nat):(bh s).setIfInBounds 54 (.int .i64 (v:Nat))=bh { s with first:=v }:=by
 unfold bh;rw[dY];refine cy fun j _=>?_;by_cases e:j=54
 ·subst e;simp[dw]
 ·simp[upd,e,dw]
theorem sR(s:Rd)(v:Nat):(bh s).setIfInBounds 55 (.int .i64 (v:Nat))=bh { s with last:=v }:=by
 unfold bh;rw[dY];refine cy fun j hj=>?_;by_cases e:j=55
 ·subst e;simp[dw]
 ·by_cases h1:j=54
  ·subst h1;simp[upd,dw]
  ·by_cases h2:j=53
   ·subst h2;simp[upd,dw]
   ·by_cases h3:j=52
    ·subst h3;simp[upd,dw]
    ·have h4:j<52:=vom
     by_cases h5:j<26<;>simp[upd,e,dw,h4,h5]
theorem Dc(s:Rd):(bh s).all (·.oneCell')=true:=by
 rw[WJ];intro v hv;simp[bh,bJ]at hv;obtain⟨i,_,rfl⟩:=hv;unfold dw
 repeat(first|rfl|split)
theorem fS{w:V8}{b:Nat}{T:TypeId}{s:Rd}(h:af w b T (bh s)):
  (∀i,i<26→w.cell? ⟨b,i,none⟩=some (.int .i64 (s.p i:Nat)))∧(∀i,i<26→w.cell? ⟨b,26+i,none⟩=some (.bool (s.st i)))∧w.cell? ⟨b,52,none⟩=some (.bool s.op)∧
  w.cell? ⟨b,53,none⟩=some (.int .i64 (s.long:Nat))∧w.cell? ⟨b,54,none⟩=some (.int .i64 (s.first:Nat))∧w.cell? ⟨b,55,none⟩=some (.int .i64 (s.last:Nat))∧∀i,w.frozen? ⟨b,i,none⟩=false:=by
 refine⟨fun i hi=>?_,fun i hi=>?_,?_,?_,?_,?_,h.frozen⟩
 ·have:=h.cell (aM (n:=56) (dw s) (i:=i) vom);simpa[dw,hi]using this
 ·have:=h.cell (aM (n:=56) (dw s) (i:=26+i) vom)
  have h1:¬(26+i<26):=vom;have h2:26+i<52:=vom;simpa[dw,h1,h2]using this
 ·exact h.cell (aM (n:=56) (dw s) (i:=52) vom)
 ·exact h.cell (aM (n:=56) (dw s) (i:=53) vom)
 ·exact h.cell (aM (n:=56) (dw s) (i:=54) vom)
 ·exact h.cell (aM (n:=56) (dw s) (i:=55) vom)
structure gS(b:Nat)(w w':V8):Prop where
 os:w'.os=w.os
 tape:w'.tape=w.tape
 output:w'.output=w.output
 size:w'.heap.size=w.heap.size
 block:∀k,k≠b→w'.heap[k]?=w.heap[k]?
theorem gS.refl(b:Nat)(w:V8):gS b w w:=⟨rfl,rfl,rfl,rfl,fun _ _=>rfl⟩
theorem gS.set{b:Nat}{a w:V8}(h:gS b a w)(i:Nat)(v:R2):gS b a (w.setCell ⟨b,i,none⟩ v):=⟨h.os,h.tape,h.output,by simpa using h.size,fun k hk=>(WT w _ k v hk).trans (h.block k hk)⟩
theorem gS.drew{b:Nat}{a w:V8}(h:gS b a w):gS b a w.drew:=⟨h.os,h.tape,h.output,h.size,h.block⟩
def Rd.letter(s:Rd)(i:Nat):Rd:=
 let f:=if s.long=0 then i else s.first
 let q:=if s.long=0 then s.p else upd s.p s.last i
 { s with st:=upd s.st i true,first:=f,p:=upd q i f,last:=i,long:=s.long+1 }
theorem uy(s:Rd)(b i:Nat)(hi:i<26)(hs:s.st i=true)(w:V8)(h:af w b 229 (bh s)):
  WA qf 178 #[.pointer (some ⟨b,0,none⟩),.int .i64 (i:Nat)] w fun e w'=>e=.returned (.int .i64 8)∧w=w':=by
 obtain⟨_,h2,_,_,_,_,_⟩:=fS h;have hc:=h2 i hi;rw[hs]at hc;clear h h2;go_enter Tryz.func178,Tryz.ntmps178;go_wp2;go_ret;exact⟨rfl,rfl⟩
theorem qY(s:Rd)(b i:Nat)(hi:i<26)(hs:s.st i=false)(hl:s.long=0)(w:V8)(h:af w b 229 (bh s)):
  WA qf 178 #[.pointer (some ⟨b,0,none⟩),.int .i64 (i:Nat)] w fun e w'=>e=.returned (.int .i64 0)∧af w' b 229 (bh (s.letter i))∧gS b w w':=by
 have HR:Hid (af w b 229 (bh s)):=h;obtain⟨h1,h2,h3,h4,h5,h6,h7⟩:=fS h;have a:=h1 i hi;have c:=h2 i hi;rw[hs]at c;rw[hl]at h4;clear h h1 h2;have e1:¬(26+i=53):=vom;go_enter Tryz.func178,Tryz.ntmps178;go_wp2;obtain⟨W,hW⟩:∃W,W=(w.setCell ⟨b,26+i,none⟩ (.bool true)).setCell ⟨b,54,none⟩ (.int .i64 (i:Nat)):=⟨_,rfl⟩
 rw[←hW]
 have d:Hid (af W b 229 (bh { s with st:=upd s.st i true,first:=i })):=by
  rw[Hid,hW,←zH { s with st:=upd s.st i true } i,←yd s i true hi];exact(HR.out.set _ _).set _ _
 have f:Hid (gS b w W):=by rw[Hid,hW];exact((gS.refl b w).set _ _).set _ _
 clear hW h3 h4 h5 h6 h7 a c;obtain⟨h1,h2,h3,h4,h5,h6,h7⟩:=fS d.out;have a:=h1 i hi;simp only at a h4 h5 h6;clear h1 h2;rw[hl]at h4
 go_region
 go_wp2;go_ret;refine⟨rfl,?_,(((f.out.set _ _).set _ _).set _ _).drew⟩;have a1:=d.out.set i (.int .i64 (i:Nat));rw[tV _ i i hi]at a1;have a2:=a1.set 55 (.int .i64 (i:Nat));rw[sR]at a2;have a3:=a2.set 53 (.int .i64 ((1:Nat):Int));rw[lR]at a3;have e2:s.letter i={ s with st:=upd s.st i true,first:=i,p:=upd s.p i i,last:=i,long:=1 }:=by simp[Rd.letter,hl]
 rw[e2];exact a3
theorem tc(s:Rd)(b i:Nat)(hi:i<26)(hs:s.st i=false)(hl:0<s.long)(hl2:s.long<9223372036854775807)(hla:s.last<26)(w:V8)(h:af w b 229 (bh s)):
  WA qf 178 #[.pointer (some ⟨b,0,none⟩),.int .i64 (i:Nat)] w fun e w'=>e=.returned (.int .i64 0)∧af w' b 229 (bh (s.letter i))∧gS b w w':=by
 have HR:Hid (af w b 229 (bh s)):=h;obtain⟨h1,h2,h3,h4,h5,h6,h7⟩:=fS h;have a:=h1 i hi;have d:=h2 i hi;rw[hs]at d;clear h h1 h2;have hz:((s.long:Int)==0)=false:=vso;go_enter Tryz.func178,Tryz.ntmps178;go_wp2;obtain⟨W,hW⟩:∃W,W=w.setCell ⟨b,26+i,none⟩ (.bool true):=⟨_,rfl⟩
 rw[←hW]
 have g:Hid (af W b 229 (bh { s with st:=upd s.st i true })):=by
  rw[Hid,hW,←yd s i true hi];exact HR.out.set _ _
 have k:Hid (gS b w W):=by rw[Hid,hW];exact(gS.refl b w).set _ _
 clear hW h3 h4 h5 h6 h7 a d;obtain⟨h1,h2,h3,h4,h5,h6,h7⟩:=fS g.out;have a:=h1 i hi;have j:=h1 s.last hla;simp only at a h4 h5 h6 j;clear h1 h2
 go_region
 go_wp2;obtain⟨W2,c⟩:∃W2,W2=(W.setCell ⟨b,s.last,none⟩ (.int .i64 (i:Nat))).drew:=⟨_,rfl⟩
 rw[←c]
 have f:Hid (af W2 b 229 (bh { s with st:=upd s.st i true,p:=upd s.p s.last i })):=by
  rw[Hid,c];have:=g.out.set s.last (.int .i64 (i:Nat));rw[tV _ s.last i hla]at this;exact this.drew
 have l:Hid (gS b w W2):=by rw[Hid,c];exact(k.out.set _ _).drew
 clear c h3 h4 h5 h6 h7 a j;obtain⟨h1,h2,h3,h4,h5,h6,h7⟩:=fS f.out;have a:=h1 i hi;simp only at a h4 h5 h6;clear h1 h2
 go_region
 go_wp2;go_ret;refine⟨rfl,?_,(((l.out.set _ _).set _ _).set _ _).drew⟩;have a1:=f.out.set i (.int .i64 (s.first:Nat));rw[tV _ i s.first hi]at a1;have a2:=a1.set 55 (.int .i64 (i:Nat));rw[sR]at a2;have a3:=a2.set 53 (.int .i64 ((s.long+1:Nat):Int));rw[lR]at a3
 have e2:s.letter i={ s with st:=upd s.st i true,p:=upd (upd s.p s.last i) i s.first,last:=i,long:=s.long+1 }:=by
  have:¬(s.long=0):=vom;simp[Rd.letter,this]
 rw[e2];exact a3
def Rd.Ia(s:Rd)(i:Nat):Int:=if s.st i=true then 8 else 0
def Rd.rX(s:Rd)(i:Nat):Rd:=if s.st i=true then s else s.letter i
theorem vw(s:Rd)(b i:Nat)(hi:i<26)(hl2:s.long<9223372036854775807)(hla:s.long=0∨s.last<26)(w:V8)(h:af w b 229 (bh s)):
  WA qf 178 #[.pointer (some ⟨b,0,none⟩),.int .i64 (i:Nat)] w fun e w'=>e=.returned (.int .i64 (s.Ia i))∧af w' b 229 (bh (s.rX i))∧gS b w w':=by
 by_cases hs:s.st i=true
 ·rw[Rd.Ia,Rd.rX,Wc hs,Wc hs]
  refine(uy s b i hi hs w h).mono ?_;rintro e w' ⟨rfl,rfl⟩;exact⟨rfl,h,gS.refl _ _⟩
 ·rw[Rd.Ia,Rd.rX,V9 hs,V9 hs]
  have a:s.st i=false:=by simpa using hs
  by_cases hl:s.long=0
  ·exact qY s b i hi a hl w h
  ·exact tc s b i hi a vom hl2 vom w h
def Rd.err(s:Rd)(c:Nat):Int:=
 if s.op=false∧c=40 then 0 else if s.op=true∧0<s.long∧c=41 then 0 else if s.op=true∧65≤c∧c≤90 then s.Ia (c-65)else 2
def Rd.next(s:Rd)(c:Nat):Rd:=
 if s.op=false∧c=40 then { s with op:=true,long:=0 } else if s.op=true∧0<s.long∧c=41 then { s with op:=false } else if s.op=true∧65≤c∧c≤90 then s.rX (c-65)else s
theorem Kj(s:Rd)(b c:Nat)(hc:c<256)(hl2:s.long<9223372036854775807)(hla:s.long=0∨s.last<26)(w:V8)(h:af w b 229 (bh s)):
  WA qf 162 #[.pointer (some ⟨b,0,none⟩),.int .u8 (c:Nat)] w fun e w'=>e=.returned (.int .i64 (s.err c))∧af w' b 229 (bh (s.next c))∧gS b w w':=by
 have HR:Hid (af w b 229 (bh s)):=h;obtain⟨h1,h2,h3,h4,h5,h6,h7⟩:=fS h;clear h h1 h2 h5 h6;have HL:=fun(hi:c-65<26)=>vw s b (c-65) hi hl2 hla w HR.out;cases ho:s.op
 ·rw[ho]at h3
  have HO:Hid (s.op=false):=ho;clear ho HL;by_cases e40:c=40
  ·have E:Hid (s.err c=0):=by simp[Hid,Rd.err,HO.out,e40]
   have N:Hid (s.next c={ s with op:=true,long:=0 }):=by simp[Hid,Rd.next,HO.out,e40]
   have t40:(((c:Nat):Int)==40)=true:=vso;clear e40;go_enter Tryz.func162,Tryz.ntmps162;go_wp2;go_ret;refine⟨eI E.out.symm,?_,((gS.refl b w).set _ _).set _ _⟩;rw[N.out];have a1:=HR.out.set 52 (.bool true);rw[xq]at a1;have a2:=a1.set 53 (.int .i64 ((0:Nat):Int));rw[lR]at a2;exact a2
  ·have E:Hid (s.err c=2):=by simp[Hid,Rd.err,HO.out,e40]
   have N:Hid (s.next c=s):=by simp[Hid,Rd.next,HO.out,e40]
   have t40:(((c:Nat):Int)==40)=false:=vso;clear e40;go_enter Tryz.func162,Tryz.ntmps162;go_wp2;go_ret;exact⟨eI E.out.symm,by rw[N.out];exact HR.out,gS.refl _ _⟩
 ·rw[ho]at h3
  have HO:Hid (s.op=true):=ho;clear ho;by_cases e41:0<s.long∧c=41
  ·have E:Hid (s.err c=0):=by simp[Hid,Rd.err,HO.out,e41.1,e41.2]
   have N:Hid (s.next c={ s with op:=false }):=by simp[Hid,Rd.next,HO.out,e41.1,e41.2]
   have t41:(((c:Nat):Int)==41)=true:=vso;have l0:0<s.long:=e41.1;clear e41 HL;go_enter Tryz.func162,Tryz.ntmps162;go_wp2;go_ret;refine⟨eI E.out.symm,?_,(gS.refl b w).set _ _⟩;rw[N.out];have a1:=HR.out.set 52 (.bool false);rw[xq]at a1;exact a1
  ·by_cases el:65≤c∧c≤90
   ·have E:Hid (s.err c=s.Ia (c-65)):=by simp[Hid,Rd.err,HO.out,el.1,el.2];omega
    have N:Hid (s.next c=s.rX (c-65)):=by
     simp only[Hid,Rd.next,HO.out];rw[V9 vsi,V9 vom,Wc ⟨trivial,el⟩]
    have d:Hid (WA qf 178 #[.pointer (some ⟨b,0,none⟩),.int .i64 ((c-65:Nat):Int)] w fun e w'=>e=.returned (.int .i64 (s.Ia (c-65)))∧af w' b 229 (bh (s.rX (c-65)))∧gS b w w'):=HL vom;have t41:(((c:Nat):Int)==41)=false:=vso;have c1:(65:Int)≤(c:Nat):=vom;have c2:((c:Nat):Int)≤90:=vom;have HE:Hid (((c-65:Nat):Int)=(c:Int)-65):=by rw[Hid];omega
    clear HL e41 el;go_enter Tryz.func162,Tryz.ntmps162;by_cases l0:0<s.long
    all_goals
     go_wp2_with fail
     rw[←HE.out];refine d.out.mono ?_;rintro e w1 ⟨rfl,a,o⟩;go_wp2;go_ret;exact⟨eI E.out.symm,by rw[N.out];exact a,o⟩
   ·have E:Hid (s.err c=2):=by
     simp only[Hid,Rd.err,HO.out];rw[V9 vsi,V9 vom,V9 (by simp only[true_and];exact el)]
    have N:Hid (s.next c=s):=by
     simp only[Hid,Rd.next,HO.out];rw[V9 vsi,V9 vom,V9 (by simp only[true_and];exact el)]
    clear HL
    have e41':¬0<s.long∨(((c:Nat):Int)==41)=false:=by
     by_cases l0:0<s.long
     ·right;simp;omega
     ·exact .inl l0
    have el':¬((65:Int)≤(c:Nat))∨(((65:Int)≤(c:Nat))∧¬(((c:Nat):Int)≤90)):=vom;clear e41 el;go_enter Tryz.func162,Tryz.ntmps162;by_cases l0:0<s.long
    ·have t41:(((c:Nat):Int)==41)=false:=e41'.resolve_left (fun h=>h l0)
     clear e41';rcases el' with c1|⟨c1,c2⟩
     all_goals
      go_wp2;go_ret;exact⟨eI E.out.symm,by rw[N.out];exact HR.out,gS.refl _ _⟩
    ·clear e41'
     rcases el' with c1|⟨c1,c2⟩
     all_goals
      go_wp2;go_ret;exact⟨eI E.out.symm,by rw[N.out];exact HR.out,gS.refl _ _⟩
end
end Go.Proofs.YtpcnpkhgjanamaaGreatDoor
