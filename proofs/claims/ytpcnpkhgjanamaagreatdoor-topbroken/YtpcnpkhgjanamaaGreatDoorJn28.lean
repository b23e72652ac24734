import Derived.Test.YtpcnpkhgjanamaaGreatDoorPz
import Derived.Test.YtpcnpkhgjanamaaGreatDoorScSw
namespace Go.Proofs.YtpcnpkhgjanamaaGreatDoor
open Go.Proofs.Tryz renaming prog→qf,underlying26→Yx
open Go renaming Value→R2,World→V8,Calls→WA
open Go.RowKit renaming Below→Wh
open Go.RowKit.Below renaming refl→Wm
set_option maxRecDepth 100000
set_option maxHeartbeats 4000000
section
open Go.RowKit PK Vg
structure zh(W:V8)(B:Nat)(v:R2)(k:Nat)(l:Nat→Sp)(R:Nat→Array R2):Prop where
 own:W.ownsRow B 37 59 v k (rws R k)
 size:∀j,j<k→(R j).size=59
 each:∀j,j<k→∃b e,B≤b∧e≤W.heap.size∧(∀g,v.ownBlock=some g→g<b∨e≤g)∧Nw b e (fun W=>gW W (.agg (R j)) (l j)) W
theorem tA{W:V8}{c:Array R2}{s:Sp}(h:gW W (.agg c) s):c.size=59∧c.all (·.oneCell')=true:=by
 obtain⟨mv,a,b,d,h1,h2,h3,h4,h5⟩:=h;injection h1 with h1;obtain⟨_,_,_,rfl,_⟩:=h2;obtain⟨_,_,_,rfl,_⟩:=h3;obtain⟨_,_,rfl,_⟩:=h4;obtain⟨_,_,rfl,_⟩:=h5;rw[h1];exact⟨bg _ _ _ _ _ _ _ _ _,eU rfl rfl rfl rfl⟩
section
variable{W W':V8}{B k b:Nat}{v v':R2}{l l':Nat→Sp}{R R':Nat→Array R2}{row:Option Nat}
theorem zh.fb(h:zh W B v k l R)(hf:Fb b W W')(hb:b<B):zh W' B v k l R:=by
 refine⟨?_,h.size,fun j hj=>?_⟩
 ·obtain⟨h1,h2⟩:=h.own
  refine⟨h1,?_⟩;rcases h2 with h2|⟨g,cap,cur,e,hB,hg,h3⟩
  ·exact .inl h2
  ·exact .inr ⟨g,cap,cur,e,hB,(hf.block g (Wd.1 hg).1 vom).trans hg,h3⟩
 ·obtain⟨b2,e,h1,h2,h3,h4⟩:=h.each j hj
  refine⟨b2,e,h1,Ws h2 hf.size,h3,h4.keep fun i o x h5 _ h6=>?_⟩;have:=hf.block i (aA h6) vom;simp only[World.cell?,this]at h6⊢;exact h6
theorem zh.below(h:zh W B v k l R)(hb:Wh W.heap.size W W'):zh W' B v k l R:=by
 refine⟨vC h.own hb,h.size,fun j hj=>?_⟩;obtain⟨b,e,h1,h2,h3,h4⟩:=h.each j hj;exact⟨b,e,h1,Ws h2 hb.size,h3,h4.below hb⟩
theorem qV{f g:Nat→Array R2}:∀{k:Nat},(∀j,j<k→f j=g j)→rws f k=rws g k
 |0,_=>rfl
 |k+1,h=>by rw[rws,rws,qV (fun j hj=>h j vom),h k vom]
theorem zh.congr(h:zh W B v k l R)(hl:∀j,j<k→l' j=l j)(hR:∀j,j<k→R' j=R j):zh W B v k l' R':=by
 refine⟨by rw[qV hR];exact h.own,fun j hj=>by rw[hR j hj];exact h.size j hj,fun j hj=>?_⟩;rw[hR j hj,hl j hj];exact h.each j hj
theorem zh.more{c:Array R2}{s:Sp}(h:zh W B v k l R)(hB:B≤b)(hvb:∀g,v.ownBlock=some g→g<b)(hQ:Nw b W.heap.size (fun W=>gW W (.agg c) s) W)
  (hown:W'.ownsRow B 37 59 v' (k+1) (rws R k++c.toList)) (hg:W.grownBy W' v.ownBlock) (hat:v'.ownBlock=v.ownBlock∨v'.ownBlock=some W.heap.size) :
  zh W' B v' (k+1) (fun i=>if i=k then s else l i) (fun i=>if i=k then c else R i):=by
 have hc:=(tA hQ.here).1;refine⟨?_,fun j hj=>?_,fun j hj=>?_⟩
 ·rw[rws,qV (g:=R) (fun j hj=>V9 vom),Wc rfl]
  exact hown
 ·by_cases e:j=k
  ·rw[Wc e];exact hc
  ·rw[V9 e];exact h.size j vom
 ·by_cases ej:j=k
  ·subst ej
   simp only[Wc];refine⟨b,W.heap.size,hB,hg.size,fun g hgv=>?_,hQ.grown hg (fun r hr=>.inl (.inl (hvb r hr)))⟩;rcases hat with h1|h1
   ·exact .inl (hvb g (h1▸hgv))
   ·rw[h1]at hgv;cases hgv;exact .inr (R3 _)
  ·obtain⟨b2,e,h1,h2,h3,h4⟩:=h.each j vom
   simp only[V9 ej];refine⟨b2,e,h1,Ws h2 hg.size,fun g hgv=>?_,h4.grown hg (fun r hr=>.inl (h3 r hr))⟩;rcases hat with h5|h5
   ·exact h3 g (h5▸hgv)
   ·rw[h5]at hgv;cases hgv;exact .inr h2
theorem zh.first{c:Array R2}{s:Sp}(hB:B≤W.heap.size)(hQ:Nw B W.heap.size (fun W=>gW W (.agg c) s) W):zh (W.alloc (.cells c 37)) B (.slice (some ⟨W.heap.size,0,none⟩) 1 1) 1 (fun _=>s) (fun _=>c):=by
 have hc:=(tA hQ.here).1;refine⟨⟨?_,.inr ⟨W.heap.size,1,c,rfl,hB,?_,R3 _,vde,by rw[hc],?_⟩⟩,fun _ _=>hc,fun j hj=>⟨B,W.heap.size,R3 _,by rw[WI];omega,fun g hg=>?_,hQ.below ((Wm _ W).alloc (R3 _) _)⟩⟩
 ·simp[rws,hc]
 ·exact af.new W 37 c
 ·simp only[rws,Yi]
  rw[ZD (by rw[Wx,hc];decide)]
 ·cases hg;exact .inr (R3 _)
theorem zh.chain(h:zh W B v k l R):Nw B W.heap.size (fun W=>kK W v k l) W:=by
 intro W' hk;obtain⟨a,cap,rfl,hm,hr⟩:=xR h.own h.size;refine⟨a,cap,R,rfl,hm,fun r hrk=>?_,fun r hrk=>?_⟩
 ·obtain⟨b,o,rfl,hb,hc⟩:=hr r hrk
  exact⟨b,o,rfl,fun j v hv=>hk b _ _ hb (aA (hc j v hv)) (hc j v hv)⟩
 ·obtain⟨b,e,h1,h2,_,h4⟩:=h.each r hrk
  exact h4 W' (fun b2 o x h5 h6 h7=>hk b2 o x vom vom h7)
end
theorem L9:(qf.info? 37).map (fun i=>(i.zero,i.size))=some (some (.agg (eG 0 0 ⟨#[]⟩ (.slice none 0 0) (.slice none 0 0) (.slice none 0 0) (.slice none 0 0) (fun _=>0) (fun _=>0))),59):=vkr
section
variable{P:Program}
theorem mD{ops:Array Oper}{rest:List Oper}{op:Oper}{a:Act}{w:V8}{Q:Exit→Act→V8→Prop}(hgd:op.guard=none)(t e:TypeId)(x:Operand)(ho:op.op=.buildSlice t 1 #[(0,x)])
  (n:Nat) (z c:Array R2) (hx:a.eval x=.agg c) (hn:n*2≤2 ^ 24) (h0:0<n) (hu:P.underlying t=some (.slice e)) (hzs:z.size=n) (hc:c.size=n) (hz:(P.info? e).map (fun i=>(i.zero,i.size))=some (some (.agg z),n))
  (h:wpList P ops Q rest (a.put op.dst (.slice (some ⟨w.heap.size,0,none⟩) 1 1)) (w.alloc (.cells c e))):wpList P ops Q (op :: rest) a w:=
 wpList_plain hgd fun _ hK=>by
  unfold Oper.wp execOp;have hm:(#[(0,x)]:Array (Nat×Operand)).map (fun(i,x)=>(i,a.eval x))=#[(0,.agg c)]:=by simp[hx]
  simp only[ho,XQ,hm,sN w t e n hn h0 hu z c hzs hc hz,Xo];exact hK _ _ h
end
theorem Je:(qf.info? 37).map (fun i=>(i.zero,i.size,i.bytes))=some (some (.agg (eG 0 0 ⟨#[]⟩ (.slice none 0 0) (.slice none 0 0) (.slice none 0 0) (.slice none 0 0) (fun _=>0) (fun _=>0))),59,544):=vkr
def VF:R2→Nat
 |.slice _ n _=>n
 |_=>0
theorem Mp{t:List UInt8}{place p:Nat}{x:Sp×Nat}(h:gU t place p=.ok x):place<64:=by
 unfold gU at h;rcases hw:dn t p with e|⟨l,q⟩
 ·rw[hw]at h;cases h
 ·rw[hw]at h
  change (match FL ⟨l.toArray⟩with|none=>_|some (k,n)=>_)=_ at h
  cases hk:FL ⟨l.toArray⟩with
  |none=>rw[hk]at h;cases h
  |some kn=>
   obtain⟨k,n⟩:=kn;rw[hk]at h
   change (if 64≤place then _ else _)=_ at h
   by_cases h64:64≤place
   ·rw[Wc h64]at h;cases h
   ·omega
def oN(L:List Sp)(i:Nat):Sp:=L.getD i (rQ 0 0)
theorem O4{L:List Sp}{s:Sp}{j:Nat}(h:j<L.length):oN (L++[s]) j=oN L j:=by
 unfold oN;simp only[List.getD];rw[WS h]
theorem Po(L:List Sp)(s:Sp):oN (L++[s]) L.length=s:=by
 unfold oN;simp only[List.getD];rw[WQ (R3 _),Nat.sub_self]
 rfl
structure MZ(w W:V8)(b:Nat)(T:ByteArray)(v:R2)(L:List Sp)(R:Nat→Array R2)(p:Nat):Prop where
 own:zh W w.heap.size v L.length (oN L) R
 rd:cV W b T p
 fb:Fb b w W
 ne:b<w.heap.size
theorem MZ.calm{w W W':V8}{b:Nat}{T:ByteArray}{v:R2}{L:List Sp}{R:Nat→Array R2}{p:Nat}(h:MZ w W b T v L R p)(hb:Wh W.heap.size W W'):MZ w W' b T v L R p:=
 ⟨h.own.below hb,af.below h.rd hb (af.lt h.rd),h.fb.trans (Fb.of hb),h.ne⟩
theorem MZ.step{w W W':V8}{b:Nat}{T:ByteArray}{v:R2}{L:List Sp}{R:Nat→Array R2}{p q:Nat}(h:MZ w W b T v L R p)(hf:Fb b W W')(hr:cV W' b T q):MZ w W' b T v L R q:=
 ⟨h.own.fb hf h.ne,hr,h.fb.trans hf,h.ne⟩
theorem Fb.grown{b:Nat}{A B C:V8}{row:Option Nat}(h:Fb b A B)(hg:B.grownBy C row)(hr:∀r,row=some r→A.heap.size≤r):Fb b A C:=
 ⟨hg.os.trans h.os,hg.tape.trans h.tape,hg.output.trans h.output,Ws h.size hg.size,fun i hi hb=>(hg.block i (by have:=h.size;omega) (fun e=>by have:=hr i e.symm;omega)).trans (h.block i hi hb)⟩
theorem yL(b:Nat)(T:ByteArray)(w:V8)(hr:cV w b T 0)(hs:T.size≤65536)(hn:kW w)(he:ia w)(hgb:jo<b∧1<b):WA qf 15 #[.pointer (some ⟨b,0,none⟩)] w fun e w'=>Told (cD (gU T.data.toList 0 0) fun s q=>kX T.data.toList 66 [s] q) e (fun L _ v=>Nw w.heap.size w'.heap.size (fun W=>kK W v L.length (oN L)) w')∧Fb b w w':=by
 have b9:=af.lt hr;obtain⟨RR,z⟩:∃RR,RR=(cD (gU T.data.toList 0 0) fun s q=>kX T.data.toList 66 [s] q):=⟨_,rfl⟩
 have a:Hid (RR=(cD (gU T.data.toList 0 0) fun s q=>kX T.data.toList 66 [s] q)):=z;rw[←z];clear z;have p5:=Pl.aN T;have e8:Hid (∀W,Fb b w W→ia W∧kW W):=fun W hW=>⟨he.fb hW hgb.1,hn.fb hW hgb.2⟩
 have y:Hid _:=rW b T 0 0 w hr hs hn he hgb vom;obtain⟨i0,j0,k6,j3,k9⟩:=JW Je;clear hr hn he;go_enter Tryz.func15,Tryz.ntmps15
 go_wp2_with fail
 refine We y.out ?_;rintro e V1 ⟨ht,hf⟩;rcases hw1:gU T.data.toList 0 0 with⟨E,A⟩|⟨s1,p1⟩
 ·rw[hw1]at ht
  obtain rfl:e=.panicked [gY E A]:=ht;have C:RR=.error (E,A):=by have h:=a.out;rw[hw1]at h;exact h
  exact⟨rfl,by rw[C];rfl,hf⟩
 rw[hw1]at ht;obtain⟨v,rfl,c,rfl,n,l⟩:=ht;have I:Hid (RR=kX T.data.toList 66 [s1] p1):=by have h:=a.out;rw[hw1]at h;exact h
 have m:=(tA n.here).1
 have V:MZ w (V1.alloc (.cells c 37)) b T (.slice (some ⟨V1.heap.size,0,none⟩) 1 1) [s1] (fun _=>c) p1:=by
  refine⟨(zh.first hf.size n).congr (fun j hj=>?_) (fun _ _=>rfl),af.alloc l _,hf.trans (Fb.alloc b _ _),b9⟩;obtain rfl:j=0:=by simp at hj;omega
  rfl
 have e7:Hid _:=V;clear V a y hw1 hf l n
 go_upto_region 2 with(first|refine mD rfl 23 37 _ rfl 59 (eG 0 0 ⟨#[]⟩ (.slice none 0 0) (.slice none 0 0) (.slice none 0 0) (.slice none 0 0) (fun _=>0) (fun _=>0)) c rfl vde vde Tryz.underlying23 (bg _ _ _ _ _ _ _ _ _) m L9 ?_)
 go_loopw [3] (fun o W=>∃(L:List Sp) (R:Nat→Array R2) (p:Nat) (g:Option Addr) (cp:Nat),o=.slice g L.length cp∧(1≤L.length∧L.length≤64)∧Hid (RR=kX T.data.toList (67-L.length) L p)∧Hid (MZ w W b T (.slice g L.length cp) L R p)) (fun o _=>65-VF o)
 case atStart=>exact⟨[s1],fun _=>c,p1,_,_,rfl,⟨vsi,vsi⟩,I,e7⟩
 case round=>
  clear e7 I m;obtain⟨L,R,p,g,cp,rfl,⟨e9,S⟩,a,HI⟩:=hrel;have e5:Hid _:=mP b T p wr HI.out.rd;obtain⟨k,hk⟩:∃k,k=L.length:=⟨_,rfl⟩
  rw[←hk]at e9 S⊢;have HK:Hid (L.length=k):=hk.symm;clear hk
  go_wp2_with fail
  refine We e5.out ?_;rintro e V2 ⟨rfl,hb⟩;have x:Hid _:=HI.out.calm hb;have d:=a.out;rw[HK.out,show 67-k=(66-k)+1 by omega]at d
  change RR=(if T.data.toList.length<p then _ else _)at d
  clear HI e5 a hb;by_cases hend:T.size<p
  ·have hd:decide (T.size<p)=true:=by simpa using hend
   rw[hd];have K:Hid (RR=.ok (L,p)):=by rw[Hid,d,Wc vom]
   clear hd hend d;go_wp2;go_ret;refine⟨?_,x.out.fb⟩;rw[K.out];exact⟨_,rfl,by rw[←HK.out];exact x.out.own.chain⟩
  ·have hd:decide (T.size<p)=false:=by simpa using hend
   rw[hd];rw[V9 vom]at d;have a:Hid _:=d;have e6:Hid _:=eV b T p V2 x.out.rd hs;clear hd d hend
   go_wp2_with fail
   refine We e6.out ?_;rintro e V3 ⟨ht,hf⟩;rcases hw2:dn T.data.toList p with⟨E,A⟩|⟨l2,p2⟩
   ·rw[hw2]at ht
    obtain rfl:e=.panicked [gY E A]:=ht;have C:RR=.error (E,A):=by have h:=a.out;rw[hw2]at h;exact h
    exact⟨rfl,by rw[C];rfl,x.out.fb.trans hf⟩
   rw[hw2]at ht;obtain⟨v,rfl,rfl,l⟩:=ht;have d:=a.out;rw[hw2]at d
   change RR=(if l2=[124]then _ else _)at d
   obtain⟨X3,G⟩:∃X3,X3=V3.alloc (.cells #[.string ⟨l2.toArray⟩,.int .i64 (p:Int)] 87):=⟨_,rfl⟩
   have Y:MZ w X3 b T (.slice g L.length cp) L R p2:=by rw[G];exact(x.out.step hf l).calm ((Wm _ _).alloc (R3 _) _)
   have M:af X3 V3.heap.size 87 #[.string ⟨l2.toArray⟩,.int .i64 (p:Int)]:=by rw[G];exact af.new V3 _ _
   have c0:=af.cell M (i:=0) rfl;have c1:=af.cell M (i:=1) rfl;have f:Hid _:=Y;have t:Hid _:=d;clear a e6 x Y hf l hw2 d M;unfold wm
   go_upto_region 4 with fail
   rw[←G];clear G;by_cases hbar:l2=[124]
   ·have k3:(l2==[124])=true:=by simpa using hbar
    have a:Hid (RR=cD (gU T.data.toList k p2) fun s q'=>kX T.data.toList (66-k) (L++[s]) q'):=by rw[Hid,t.out,Wc hbar,HK.out]
    have y:Hid _:=rW b T p2 k X3 f.out.rd hs (e8.out _ f.out.fb).2 (e8.out _ f.out.fb).1 hgb S;clear t hbar
    go_wp2_with fail
    refine We y.out ?_;rintro e V5 ⟨ht,hf⟩;rcases hw3:gU T.data.toList k p2 with⟨E,A⟩|⟨s,p3⟩
    ·rw[hw3]at ht
     obtain rfl:e=.panicked [gY E A]:=ht;have C:RR=.error (E,A):=by have h:=a.out;rw[hw3]at h;exact h
     exact⟨rfl,by rw[C];rfl,f.out.fb.trans hf⟩
    have n4:=Mp hw3;rw[hw3]at ht;obtain⟨v,rfl,c,rfl,n,l⟩:=ht;have e3:Hid (RR=kX T.data.toList (66-k) (L++[s]) p3):=by have h:=a.out;rw[hw3]at h;exact h
    obtain⟨m,U⟩:=tA n.here;have H:=f.out.step hf l;have O:Hid (∀g',(Value.slice g L.length cp).ownBlock=some g'→w.heap.size≤g'∧g'<X3.heap.size):=fun g' hg'=>World.ownsRow.lt f.out.own.own g' hg';have l9:X3.heap.size≤V5.heap.size:=hf.size;have o6:w.heap.size≤V5.heap.size:=H.fb.size;have k4:Hid (w.heap.size≤X3.heap.size):=f.out.fb.size;have J:=H.own.own;rw[HK.out]at J;have B:Hid _:=H;have k8:Hid (Nw X3.heap.size V5.heap.size (fun W=>gW W (.agg c) s) V5):=n;have k5:Hid (c.all (·.oneCell')=true):=U;clear H n U l hf y a hw3 f c0 c1
    go_wp2_with (first|refine mD rfl 23 37 _ rfl 59 (eG 0 0 ⟨#[]⟩ (.slice none 0 0) (.slice none 0 0) (.slice none 0 0) (.slice none 0 0) (fun _=>0) (fun _=>0)) c rfl vde vde Tryz.underlying23 (bg _ _ _ _ _ _ _ _ _) m L9 ?_|(at_builtin;refine wpList_append_own_at _ rfl _ _ 23 rfl w.heap.size 37 i0 (.agg (eG 0 0 ⟨#[]⟩ (.slice none 0 0) (.slice none 0 0) (.slice none 0 0) (.slice none 0 0) (fun _=>0) (fun _=>0))) 59 544 Tryz.underlying23 j0 k6 j3 k9 (bg _ _ _ _ _ _ _ _ _) vde _ _ _ rfl (World.ownsRow.alloc J _) ⟨V5.heap.size,0,none⟩ 1 1 c.toList rfl (by rw[Wx,m]) (fun q u hu=>by rw[Addr.add_mid,WN];exact(af.new V5 37 c).cell (by rw[←Wo];exact hu)) (fun u hu=>by have:=k5.out;rw[←Array.all_toList]at this;exact Yv.1 this u hu) (by unfold maxLen;omega) vom vso ?_;intro v5 w5 hown5 hgrow5 _ hat5;obtain⟨g5,c5,rfl⟩:=oH hown5;have e4:Hid _:=hown5;have N:Hid _:=hgrow5;have l5:Hid _:=hat5;clear hown5 hgrow5 hat5))
    have F:Wh V5.heap.size V5 (V5.alloc (.cells c 37)):=(Wm _ V5).alloc (R3 _) _;have Z:=B.out.own;rw[HK.out]at Z;have P:=(Z.below F).more (b:=X3.heap.size) (c:=c) (s:=s) (by have:=B.out.fb.size;have:=k4.out;omega) (fun g' hg'=>(O.out g' (by rw[HK.out];exact hg')).2) ((k8.out.mono (R3 _) F.size).below F) e4.out N.out l5.out
    have Q:MZ w w5 b T (.slice g5 (L++[s]).length c5) (L++[s]) (fun i=>if i=L.length then c else R i) p3:=by
     refine⟨?_,?_,?_,b9⟩
     ·rw[WM]
      show zh w5 w.heap.size (.slice g5 (L.length+1) c5) (L.length+1) (oN (L++[s])) _;rw[HK.out];refine P.congr (fun j hj=>?_) (fun _ _=>rfl);by_cases e:j=k
      ·rw[Wc e,e,←HK.out];exact Po L s
      ·rw[V9 e];exact O4 (by rw[HK.out];omega)
     ·exact(N.out.block b (by have:=B.out.fb.size;rw[WI];omega) (fun e=>by have:=(O.out b (by rw[HK.out];exact e.symm)).1;omega)).trans (af.alloc B.out.rd _)
     ·exact(B.out.fb.trans (Fb.of F)).grown N.out (fun r e=>(O.out r (by rw[HK.out];exact e)).1)
    have D:(L++[s]).length=k+1:=by rw[WM,HK.out];rfl
    go_wp2;go_roundw
    case rel=>exact⟨L++[s],fun i=>if i=L.length then c else R i,p3,g5,c5,by rw[D],by rw[D];exact⟨vom,vom⟩,by rw[Hid,e3.out,D,show 67-(k+1)=66-k by omega],Q⟩
    case measure=>simp[VF];omega
   ·have k3:(l2==[124])=false:=by simpa using hbar
    have K:Hid (RR=.error (2,p)):=by rw[Hid,t.out,V9 hbar]
    have k7:Hid _:=dr 2 (p:Int) X3;clear t hbar
    go_wp2_with fail
    refine We k7.out ?_;rintro e V4 ⟨rfl,rfl⟩;exact⟨rfl,by rw[K.out];rfl,f.out.fb⟩
theorem Nw.Nt{B E:Nat}{P:V8→Prop}{W:V8}(h:Nw B E P W){g o:Nat}(hg:g<B)(v:R2):Nw B E P (W.setCell ⟨g,o,none⟩ v):=h.keep fun b o2 x h1 _ h3=>by
 have:=WT W ⟨g,o,none⟩ b v (by show b≠g;omega);simp only[World.cell?,this]at h3⊢;exact h3
theorem xz(args:Array R2)(W:V8):(callFunc 13 args).run qf W=.ok (.enter 13 args) W:=vkr
theorem Rw{w:V8}(hn:kW w)(he:ia w):jo<w.heap.size∧1<w.heap.size:=by
 obtain⟨ev,h1,_⟩:=he;have a:=aA (hn.kn 0 _ rfl);have b:=aA (hn.tb 0 _ rfl);exact⟨aA h1,vom⟩
theorem KL(T:ByteArray)(X:V8):cV (X.alloc (.cells #[.string T,.int .i64 0] 59)) X.heap.size T 0:=af.new X _ _
theorem Ht(q:Nat)(T:ByteArray)(X:V8)(hq:af X q 9 #[.string T])(hn:kW X)(he:ia X):WA qf 13 #[.pointer (some ⟨q,0,none⟩)] X fun e w'=>Told (nS T.data.toList) e (fun L _ v=>Nw X.heap.size w'.heap.size (fun W=>kK W v L.length (oN L)) w')∧Wh X.heap.size X w':=by
 have g:=Pl.aN T;have c0:=af.cell hq (i:=0) rfl;unfold nS;by_cases hbig:65536<T.data.toList.length
 ·rw[Wc hbig]
  have k:Hid _:=dr 4 0 X;have hb:(65536:Int)<(T.size:Int):=vom;clear hq hn he g hbig;go_enter Tryz.func13,Tryz.ntmps13
  go_wp2_with fail
  refine We k.out ?_;rintro e V ⟨rfl,rfl⟩;exact⟨rfl,rfl,Wm _ _⟩
 ·rw[V9 hbig]
  have f:=Rw hn he;have b:Wh X.heap.size X (X.alloc (.cells #[.string T,.int .i64 0] 59)):=(Wm _ X).alloc (R3 _) _;have hb:¬(65536:Int)<(T.size:Int):=vom;have h:Hid _:=yL X.heap.size T _ (KL T X) vom (hn.below b) (he.below b) f;have d:Hid (Wh X.heap.size X (X.alloc (.cells #[.string T,.int .i64 0] 59))):=b;clear b hq hn he g hbig f;go_enter Tryz.func13,Tryz.ntmps13
  go_wp2_with fail
  refine We h.out ?_;rintro e V ⟨ht,hf⟩;have HB:Hid (Wh X.heap.size X V):=Fb.old d.out hf (R3 _);rcases hRR:(cD (gU T.data.toList 0 0) fun s q=>kX T.data.toList 66 [s] q)with⟨E,A⟩|⟨L,p⟩
  ·rw[hRR]at ht
   obtain rfl:e=.panicked [gY E A]:=ht;exact⟨rfl,by rw[hRR];rfl,HB.out⟩
  ·rw[hRR]at ht
   obtain⟨v,rfl,c⟩:=ht;obtain⟨a,cap,R,rfl,-⟩:=c.here;have j:Hid (Nw X.heap.size V.heap.size (fun W=>kK W (.slice a L.length cap) L.length (oN L)) V):=c.mono (by rw[WI];omega) (R3 _);have l:Hid _:=hRR;clear c hf h d hRR;go_wp2;go_ret;exact⟨by rw[l.out];exact⟨_,rfl,j.out⟩,HB.out⟩
def Vz(r:Rz (List Sp))(e:Ending)(w':V8):Prop:=match r with
 |.ok (L,_)=>∃v,e=.returned (.tuple #[v,iR 0 0])∧kK w' v L.length (oN L)
 |.error (E,A)=>e=.returned (.tuple #[.slice none 0 0,iR E A])
theorem vz(T:ByteArray)(w:V8)(hn:kW w)(he:ia w):WA qf 5 #[.string T] w fun e w'=>Vz (nS T.data.toList) e w'∧Wh w.heap.size w w':=by
 obtain⟨W1,c⟩:∃W1,W1=(w.alloc (.cells #[.string T] 9)).alloc (.cells #[.int .i64 0,.int .i64 0] 26):=⟨_,rfl⟩
 have l:W1.heap.size=w.heap.size+2:=by rw[c];simp
 have h1:Wh w.heap.size w W1:=by rw[c];exact((Wm _ w).alloc (R3 _) _).alloc vsi _
 have g:af W1 w.heap.size 9 #[.string T]:=by rw[c];exact(af.new w _ _).alloc _
 have h5:af W1 (w.heap.size+1) 26 #[.int .i64 0,.int .i64 0]:=by
  rw[c];have:=af.new (w.alloc (.cells #[.string T] 9)) 26 #[.int .i64 0,.int .i64 0];simpa using this
 have hF:Wh W1.heap.size W1 (iD W1):=(Wm _ W1).alloc (R3 _) _;have f:Wh w.heap.size w (iD W1):=h1.trans (hF.mono h1.size);have m:(iD W1).heap.size=W1.heap.size+1:=by simp[iD]
 have HR:=Ht w.heap.size T (iD W1) (af.below g hF (af.lt g)) (hn.below f) (he.below f);have b:af (iD W1) W1.heap.size 26 #[.int .i64 0,.int .i64 0]:=af.new W1 _ _;have n:Hid (Wh w.heap.size w W1):=h1;have q:=Sa;rcases hRR:nS T.data.toList with⟨E,A⟩|⟨L,p⟩
 ·rw[hRR]at HR
  have k:Hid (WA qf 12 #[.func (.func 13) #[] #[.pointer (some ⟨w.heap.size,0,none⟩)]] W1 fun e w'=>e=.returned (.tuple #[.slice none 0 0,iR E A])∧Wh W1.heap.size W1 w'):=by
   refine We (II 13 _ xz W1 W1.heap.size (R3 _) E A (fun _=>True) (We HR ?_)) ?_
   ·rintro e w' ⟨rfl,hb⟩
    exact⟨rfl,trivial,af.below b hb (af.lt b),hb.mono vom⟩
   ·rintro e w' ⟨rfl,_,hb⟩
    exact⟨rfl,hb⟩
  have H5:Hid _:=h5;clear HR h1 g h5 hF f b hn he hRR;go_enter Tryz.func5,Tryz.ntmps5
  go_upto_region 1 with fail
  rw[←c];clear c
  go_wp2_with fail
  refine We k.out ?_;rintro e V ⟨rfl,hb⟩;have hr:=af.below H5.out hb (af.lt H5.out);have c0:=hr.cell (i:=0) rfl;have c1:=hr.cell (i:=1) rfl;have f0:=hr.frozen 0;have f1:=hr.frozen 1;have h:Hid (af ((V.setCell ⟨w.heap.size+1,0,none⟩ (.int .i64 E)).setCell ⟨w.heap.size+1,1,none⟩ (.int .i64 A)) (w.heap.size+1) 26 #[.int .i64 E,.int .i64 A]):=(hr.set 0 _).set 1 _;have j:Hid (Wh w.heap.size w ((V.setCell ⟨w.heap.size+1,0,none⟩ (.int .i64 E)).setCell ⟨w.heap.size+1,1,none⟩ (.int .i64 A))):=((n.out.trans (hb.mono vom)).setCell (p:=⟨w.heap.size+1,0,none⟩) (by show _≤_+1;omega) _).setCell (p:=⟨w.heap.size+1,1,none⟩) (by show _≤_+1;omega) _;clear hr hb l m;unfold iR;go_wp2;exact⟨rfl,_,cO rfl _ _ (w.heap.size+1) 26 #[.int .i64 E,.int .i64 A] (0,0) _ _ rfl rfl h.out Yx rfl n7,by show _=Ending.returned (.tuple #[.slice none 0 0,iR E A]);rfl,j.out⟩
 ·rw[hRR]at HR
  have k:Hid (WA qf 12 #[.func (.func 13) #[] #[.pointer (some ⟨w.heap.size,0,none⟩)]] W1 fun e w'=>∃a cap,e=.returned (.tuple #[.slice a L.length cap,iR 0 0])∧Nw (W1.heap.size+1) w'.heap.size (fun W=>kK W (.slice a L.length cap) L.length (oN L)) w'∧Wh W1.heap.size W1 w'):=by
   refine We (MI 13 _ xz W1 W1.heap.size (R3 _) (fun v w'=>Nw (W1.heap.size+1) w'.heap.size (fun W=>kK W v L.length (oN L)) w') (We HR ?_)) ?_
   ·rintro e w' ⟨⟨v,rfl,d⟩,hb⟩
    refine⟨v,rfl,?_,d.mono vom (R3 _),af.below b hb (af.lt b),hb.mono vom⟩;obtain⟨a,cap,R,rfl,-⟩:=d.here
    rfl
   ·rintro e w' ⟨v,rfl,⟨w1,d,rfl⟩,hb⟩
    obtain⟨a,cap,R,rfl,-⟩:=d.here;refine⟨a,cap,rfl,?_,hb⟩;rw[XF,XF];exact(d.Nt vom _).Nt vom _
  have H5:Hid _:=h5;clear HR h1 g h5 hF f b hn he hRR;go_enter Tryz.func5,Tryz.ntmps5
  go_upto_region 1 with fail
  rw[←c];clear c
  go_wp2_with fail
  refine We k.out ?_;rintro e V ⟨a,cap,rfl,d,hb⟩;have hr:=af.below H5.out hb (af.lt H5.out);have c0:=hr.cell (i:=0) rfl;have c1:=hr.cell (i:=1) rfl;have f0:=hr.frozen 0;have f1:=hr.frozen 1;have h:Hid (af ((V.setCell ⟨w.heap.size+1,0,none⟩ (.int .i64 0)).setCell ⟨w.heap.size+1,1,none⟩ (.int .i64 0)) (w.heap.size+1) 26 #[.int .i64 0,.int .i64 0]):=(hr.set 0 _).set 1 _;have j:Hid (Wh w.heap.size w ((V.setCell ⟨w.heap.size+1,0,none⟩ (.int .i64 0)).setCell ⟨w.heap.size+1,1,none⟩ (.int .i64 0))):=((n.out.trans (hb.mono vom)).setCell (p:=⟨w.heap.size+1,0,none⟩) (by show _≤_+1;omega) _).setCell (p:=⟨w.heap.size+1,1,none⟩) (by show _≤_+1;omega) _;have o:Hid (kK ((V.setCell ⟨w.heap.size+1,0,none⟩ (.int .i64 0)).setCell ⟨w.heap.size+1,1,none⟩ (.int .i64 0)) (.slice a L.length cap) L.length (oN L)):=((d.Nt vom _).Nt vom _).here;clear hr hb d l m;unfold iR;go_wp2;exact⟨rfl,_,cO rfl _ _ (w.heap.size+1) 26 #[.int .i64 0,.int .i64 0] (0,0) _ _ rfl rfl h.out Yx rfl n7,⟨.slice a L.length cap,rfl,o.out⟩,j.out⟩
def OW(x:Nat):Sp:={ rQ 1 0 with n:=(x:Int) }
def AS:Sp:={ rQ 6 0 with g:=Bc [73] [66] [65] [65] (Pm.up fun i=>i) }
theorem D1:nS [114,111,116,111,114,32,73,32,66,32,65,32,65,32,124,32,109,111,118,101,32,48]=.ok ([AS,OW 0],23):=vkr
theorem Qs:ni AS=0:=vkr
end
end Go.Proofs.YtpcnpkhgjanamaaGreatDoor
