import Derived.Test.YtpcnpkhgjanamaaGreatDoorPz
import Derived.Test.YtpcnpkhgjanamaaGreatDoorJn27
namespace Go.Proofs.YtpcnpkhgjanamaaGreatDoor
open Go.Proofs.Tryz renaming underlying37→WY
open _root_.Decidable renaming not_not→Xk
set_option maxRecDepth 100000
set_option maxHeartbeats 4000000
open Go.RowKit PK Vg
theorem rW(b:Nat)(T:ByteArray)(p0 place:Nat)(w:World)(hr:cV w b T p0)(hs:T.size≤65536)(hn:kW w)(he:ia w)(hgb:jo<b∧1<b)(hpl:place≤64):Calls Tryz.prog 37 #[.pointer (some ⟨b,0,none⟩),.int .i64 (place:Int)] w fun e w'=>Told (gU T.data.toList place p0) e (fun s q v=>∃c,v=.agg c∧Nw w.heap.size w'.heap.size (fun W=>gW W (.agg c) s) w'∧cV w' b T q)∧Fb b w w':=by
 have w8:=af.lt hr;obtain⟨RR,l9⟩:∃RR,RR=gU T.data.toList place p0:=⟨_,rfl⟩
 have C:Hid (RR=gU T.data.toList place p0):=l9;rw[←l9];clear l9;unfold gU at C;have w9:=Pl.aN T;have s5:=bR zX;obtain⟨Z0,r6⟩:∃Z0,Z0=eG 0 0 ⟨#[]⟩ (.slice none 0 0) (.slice none 0 0) (.slice none 0 0) (.slice none 0 0) (fun _=>0) (fun _=>0):=⟨_,rfl⟩
 rw[←r6]at s5;have e7:Hid (Z0.size=59):=by rw[Hid,r6];exact bg _ _ _ _ _ _ _ _ _
 clear r6;obtain⟨Y,hY⟩:∃Y,Y=w.alloc (.cells Z0 37):=⟨_,rfl⟩
 have s4:Fb b w Y:=by rw[hY];exact Fb.alloc b w _
 have u7:cV Y b T p0:=by rw[hY];exact af.alloc hr _
 have t:af Y w.heap.size 37 Z0:=by rw[hY];exact af.new w _ _
 have N:Hid _:=eV b T p0 Y u7 hs;have q8:Hid _:=t;have r9:Hid _:=s4;have q5:Hid (∀W,Fb b w W→ia W∧kW W):=fun W hW=>⟨he.fb hW hgb.1,hn.fb hW hgb.2⟩
 clear hr hn he u7 t s4;go_enter Tryz.func37,Tryz.ntmps37
 go_upto_region 1 with fail
 rw[←hY];clear hY
 go_wp2_with fail
 refine We N.out ?_;rintro e V1 ⟨ht,hf⟩;rcases hw1:dn T.data.toList p0 with⟨E,A⟩|⟨l1,p1⟩
 ·rw[hw1]at ht
  obtain rfl:e=.panicked [gY E A]:=ht;have I:RR=.error (E,A):=by have h:=C.out;rw[hw1]at h;exact h
  exact⟨rfl,by rw[I];rfl,r9.out.trans hf⟩
 rw[hw1]at ht;obtain⟨v,rfl,rfl,J⟩:=ht;obtain⟨-,-,-,l5,e9,p7,q6⟩:=eu hw1;have a:=C.out;rw[hw1]at a
 change RR=(match FL ⟨l1.toArray⟩with|none=>_|some (k,n)=>_)at a
 obtain⟨X1,k9⟩:∃X1,X1=V1.alloc (.cells #[.string ⟨l1.toArray⟩,.int .i64 (p0:Int)] 87):=⟨_,rfl⟩
 have D:Fb b w X1:=by rw[k9];exact(r9.out.trans hf).trans (Fb.alloc b V1 _)
 have e8:af X1 V1.heap.size 87 #[.string ⟨l1.toArray⟩,.int .i64 (p0:Int)]:=by rw[k9];exact af.new V1 _ _
 have u9:cV X1 b T p1:=by rw[k9];exact af.alloc J _
 have w5:af X1 w.heap.size 37 Z0:=by rw[k9];exact af.alloc (hf.row q8.out vom) _
 have c0:=af.cell e8 (i:=0) rfl;have u0:Hid _:=IY ⟨l1.toArray⟩ X1 (q5.out _ D).2;have f:Hid _:=a;have u6:Hid _:=D;have r7:Hid _:=e8;have r3:Hid _:=u9;have r8:Hid _:=w5;clear C N q8 r9 hf J a D e8 u9 w5 hw1 l5 e9 p7;unfold wm
 go_upto_region 2 with fail
 rw[←k9];clear k9
 go_wp2_with fail
 refine We u0.out ?_;rintro e V2 ⟨p5,q3,hb⟩;have F:Fb b w V2:=u6.out.trans (Fb.of hb);have e8:=af.below r7.out hb (af.lt r7.out);have s3:=af.below r3.out hb (af.lt r3.out);have q4:=af.below r8.out hb (af.lt r8.out);clear u0 u6 r7 r3 r8 hb c0;have w7:=af.lt q4;have x2:=af.lt e8;have a:=f.out;clear f
 obtain⟨k,n,ok,v8,rfl⟩:∃k n ok,(FL ⟨l1.toArray⟩=if ok=true then some (k,n)else none)∧e=.returned (.tuple #[.agg (stA k n),.bool ok]):=by
  cases hk:FL ⟨l1.toArray⟩with
  |none=>exact⟨0,0,false,rfl,q3 hk⟩
  |some x=>exact⟨x.1,x.2,true,rfl,p5 x.1 x.2 hk⟩
 rw[v8]at a;clear v8 p5 q3;obtain⟨CS,n4⟩:∃CS,CS=stA k n:=⟨_,rfl⟩
 have o6:Hid (CS.size=59):=by rw[Hid,n4];exact Mo k n
 have q7:Hid (CS.all (·.oneCell')=true):=by rw[Hid,n4];exact O0 k n
 rw[←n4];obtain⟨X2,k8⟩:∃X2,X2=(V2.alloc (.cells Z0 37)).setRow V2.heap.size CS:=⟨_,rfl⟩
 have p9:Below V2.heap.size V2 X2:=by rw[k8];exact PK.Below.setRow ((Below.refl _ V2).alloc (R3 _) _) V2.heap.size (R3 _) _
 have hI:yw w X2 b w.heap.size V2.heap.size T p1 Z0 CS (Ur (.slice none 0 0) (.slice none 0 0) (.slice none 0 0) (.slice none 0 0) (rQ k n)):=⟨af.below q4 p9 (af.lt q4),by rw[k8];exact(af.new V2 _ _).row CS,af.below s3 p9 (af.lt s3),F.trans (Fb.of p9),w8,rfl,w7,Oy k n X2⟩
 have q9:=af.below e8 p9 (af.lt e8);have cw1:=af.cell q9 (i:=1) rfl;have C:Hid _:=a;have HI:Hid _:=hI;have b9:Hid (CS=stA k n):=n4;clear q4 s3 e8 p9 q9 F a hI n4;cases ok with
 |false=>
  have O:Hid (RR=.error (7,p0)):=by rw[Hid,C.out];rfl
  have r4:Hid _:=dr 7 (p0:Int) X2
  go_upto_region 3 with(first|refine Wk rfl 37 _ _ rfl V2.heap.size CS rfl rfl 37 _ (af.new V2 _ _) (by rw[o6.out];exact bY) (by rw[o6.out,e7.out]) q7.out ?_)
  rw[←k8];clear k8
  go_wp2_with fail
  refine We r4.out ?_;rintro e V3 ⟨rfl,rfl⟩;exact⟨rfl,by rw[O.out];rfl,HI.out.fb⟩
 |true=>
  go_upto_region 3 with(first|refine Wk rfl 37 _ _ rfl V2.heap.size CS rfl rfl 37 _ (af.new V2 _ _) (by rw[o6.out];exact bY) (by rw[o6.out,e7.out]) q7.out ?_)
  rw[←k8];clear k8;by_cases h64:64≤place
  ·have O:Hid (RR=.error (5,p0)):=by
    rw[Hid,C.out];show(if 64≤place then _ else _)=_;rw[Wc h64]
   have r4:Hid _:=dr 5 (p0:Int) X2;have u5:(64:Int)≤(place:Int):=vom;clear h64
   go_wp2_with fail
   refine We r4.out ?_;rintro e V3 ⟨rfl,rfl⟩;exact⟨rfl,by rw[O.out];rfl,HI.out.fb⟩
  have u5:¬(64:Int)≤(place:Int):=vom;have a:=C.out
  change RR=(if 64≤place then _ else _)at a
  rw[V9 h64]at a;have f:Hid _:=a;clear C a h64 cw1;have C:Hid _:=f.out;clear f;have ck:X2.cell? ⟨V2.heap.size,0,none⟩=some (.int .i64 (k:Int)):=af.cell HI.out.box (by rw[b9.out];exact xJ _ _ _ _ _ _ _ _ _);by_cases k1:k=1
  ·subst k1
   have N:Hid _:=eV b T p1 X2 HI.out.rd hs;have a:=C.out;rw[Wc rfl]at a;unfold pL at a;have f:Hid _:=a;clear C a
   go_wp2_with fail
   refine We N.out ?_;rintro e V3 ⟨ht,hf⟩;rcases hw2:dn T.data.toList p1 with⟨E,A⟩|⟨l2,p2⟩
   ·rw[hw2]at ht
    obtain rfl:e=.panicked [gY E A]:=ht;have I:RR=.error (E,A):=by have h:=f.out;rw[hw2]at h;exact h
    exact⟨rfl,by rw[I];rfl,HI.out.fb.trans hf⟩
   rw[hw2]at ht;obtain⟨v,rfl,rfl,J⟩:=ht;obtain⟨-,-,-,l5,e9,p7,q6⟩:=eu hw2;have S:Hid _:=HI.out.step hf J;have a:=f.out;rw[hw2]at a
   change RR=cD (dJ _ _ _) _ at a
   have e5:Hid _:=mA l2 p1 0 25 vom e9 vom V3 (q5.out _ S.out.fb).1;have G:Hid _:=a;clear HI N f hf J a hw2 ck
   go_wp2_with fail
   refine We e5.out ?_;rintro e V4 ⟨e6,P,hb⟩;by_cases hE:¬lX l2 0 25=0
   ·obtain rfl:=P hE
    have I:RR=.error (lX l2 0 25,p1):=by rw[G.out];unfold dJ;rw[V9 hE];rfl
    exact⟨rfl,by rw[I];rfl,(S.out.calm hb).fb⟩
   have hE:=Xk.1 hE;obtain rfl:=e6 hE;have O:Hid (RR=.ok ({ rQ 1 n with n:=(dQ 0 l2:Nat) },p2)):=by rw[Hid,G.out,dJ,Wc hE]<;>rfl
   have z:=S.out.calm hb;have y:=z.put (c':=eG ((1:Nat):Int) ((dQ 0 l2:Nat):Int) ⟨#[]⟩ (.slice none 0 0) (.slice none 0 0) (.slice none 0 0) (.slice none 0 0) (fun _=>0) (fun _=>0)) 1 (.int .i64 ((dQ 0 l2:Nat):Int)) (by rw[b9.out];exact Uf _ _ _ _ _ _ _ _ _ _);have c1:=af.cell z.box (i:=1) (by rw[b9.out];exact xp _ _ _ _ _ _ _ _ _);have f1:=af.frozen z.box 1;obtain⟨V5,H⟩:∃V5,V5=V4.setCell ⟨V2.heap.size,1,none⟩ (.int .i64 ((dQ 0 l2:Nat):Int)):=⟨_,rfl⟩
   rw[←H]at y;have u:Hid _:=y;clear y z S G e5 P e6 hb hE
   go_upto_region 19 with fail
   rw[←H];clear H c1 f1;obtain⟨MC,l⟩:∃MC,MC=eG ((1:Nat):Int) ((dQ 0 l2:Nat):Int) ⟨#[]⟩ (.slice none 0 0) (.slice none 0 0) (.slice none 0 0) (.slice none 0 0) (fun _=>0) (fun _=>0):=⟨_,rfl⟩
   have M:=u.out.box;rw[←l]at M;have d:Hid (MC.size=59):=by rw[Hid,l];exact bg _ _ _ _ _ _ _ _ _
   have B:Hid (MC.all (·.oneCell')=true):=by rw[Hid,l];exact eU rfl rfl rfl rfl
   have t:=u.out.res;obtain⟨D,F,K⟩:=u.out.fin MC;have V:Hid (af (V5.setRow w.heap.size MC) w.heap.size 37 MC):=af.row t MC;have e4:Hid (Nw w.heap.size (V5.setRow w.heap.size MC).heap.size (fun W=>gW W (.agg MC) { rQ 1 n with n:=(dQ 0 l2:Nat) }) (V5.setRow w.heap.size MC)):=K.imp fun W hW=>⟨_,_,_,_,by rw[l];rfl,hW.1,hW.2.1,hW.2.2.1,hW.2.2.2⟩
   have e3:Hid (cV (V5.setRow w.heap.size MC) b T p2):=D;have U:Hid (Fb b w (V5.setRow w.heap.size MC)):=F;clear D F K l u
   go_wp2_with (first|refine Wn rfl 37 _ rfl V2.heap.size rfl 37 MC (0,0) _ M WY rfl (by rw[d.out];exact bY) ?_|refine Wk rfl 37 _ _ rfl w.heap.size MC rfl rfl 37 _ t (by rw[d.out];exact bY) (by rw[d.out,e7.out]) B.out ?_)
   exact⟨rfl,_,cE rfl _ _ w.heap.size 37 MC (0,0) _ rfl V.out WY rfl (by rw[d.out];exact bY),by rw[O.out];exact⟨_,rfl,MC,rfl,e4.out,e3.out⟩,U.out⟩
  by_cases k3:k=3
  ·subst k3
   have N:Hid _:=eV b T p1 X2 HI.out.rd hs;have a:=C.out;rw[V9 vde,Wc rfl]at a;unfold pL at a;have f:Hid _:=a;clear C a
   go_wp2_with fail
   refine We N.out ?_;rintro e V3 ⟨ht,hf⟩;rcases hw2:dn T.data.toList p1 with⟨E,A⟩|⟨l2,p2⟩
   ·rw[hw2]at ht
    obtain rfl:e=.panicked [gY E A]:=ht;have I:RR=.error (E,A):=by have h:=f.out;rw[hw2]at h;exact h
    exact⟨rfl,by rw[I];rfl,HI.out.fb.trans hf⟩
   rw[hw2]at ht;obtain⟨v,rfl,rfl,J⟩:=ht;obtain⟨-,-,-,l5,e9,p7,q6⟩:=eu hw2;have S:Hid _:=HI.out.step hf J;have a:=f.out;rw[hw2]at a
   change RR=cD (dJ _ _ _) _ at a
   have e5:Hid _:=mA l2 p1 1 64 vom e9 vom V3 (q5.out _ S.out.fb).1;have G:Hid _:=a;clear HI N f hf J a hw2 ck
   go_wp2_with fail
   refine We e5.out ?_;rintro e V4 ⟨e6,P,hb⟩;by_cases hE:¬lX l2 1 64=0
   ·obtain rfl:=P hE
    have I:RR=.error (lX l2 1 64,p1):=by rw[G.out];unfold dJ;rw[V9 hE];rfl
    exact⟨rfl,by rw[I];rfl,(S.out.calm hb).fb⟩
   have hE:=Xk.1 hE;obtain rfl:=e6 hE;have O:Hid (RR=.ok ({ rQ 3 n with n:=(dQ 0 l2:Nat) },p2)):=by rw[Hid,G.out,dJ,Wc hE]<;>rfl
   have z:=S.out.calm hb;have y:=z.put (c':=eG ((3:Nat):Int) ((dQ 0 l2:Nat):Int) ⟨#[]⟩ (.slice none 0 0) (.slice none 0 0) (.slice none 0 0) (.slice none 0 0) (fun _=>0) (fun _=>0)) 1 (.int .i64 ((dQ 0 l2:Nat):Int)) (by rw[b9.out];exact Uf _ _ _ _ _ _ _ _ _ _);have c1:=af.cell z.box (i:=1) (by rw[b9.out];exact xp _ _ _ _ _ _ _ _ _);have f1:=af.frozen z.box 1;obtain⟨V5,H⟩:∃V5,V5=V4.setCell ⟨V2.heap.size,1,none⟩ (.int .i64 ((dQ 0 l2:Nat):Int)):=⟨_,rfl⟩
   rw[←H]at y;have u:Hid _:=y;clear y z S G e5 P e6 hb hE
   go_upto_region 19 with fail
   rw[←H];clear H c1 f1;obtain⟨MC,l⟩:∃MC,MC=eG ((3:Nat):Int) ((dQ 0 l2:Nat):Int) ⟨#[]⟩ (.slice none 0 0) (.slice none 0 0) (.slice none 0 0) (.slice none 0 0) (fun _=>0) (fun _=>0):=⟨_,rfl⟩
   have M:=u.out.box;rw[←l]at M;have d:Hid (MC.size=59):=by rw[Hid,l];exact bg _ _ _ _ _ _ _ _ _
   have B:Hid (MC.all (·.oneCell')=true):=by rw[Hid,l];exact eU rfl rfl rfl rfl
   have t:=u.out.res;obtain⟨D,F,K⟩:=u.out.fin MC;have V:Hid (af (V5.setRow w.heap.size MC) w.heap.size 37 MC):=af.row t MC;have e4:Hid (Nw w.heap.size (V5.setRow w.heap.size MC).heap.size (fun W=>gW W (.agg MC) { rQ 3 n with n:=(dQ 0 l2:Nat) }) (V5.setRow w.heap.size MC)):=K.imp fun W hW=>⟨_,_,_,_,by rw[l];rfl,hW.1,hW.2.1,hW.2.2.1,hW.2.2.2⟩
   have e3:Hid (cV (V5.setRow w.heap.size MC) b T p2):=D;have U:Hid (Fb b w (V5.setRow w.heap.size MC)):=F;clear D F K l u
   go_wp2_with (first|refine Wn rfl 37 _ rfl V2.heap.size rfl 37 MC (0,0) _ M WY rfl (by rw[d.out];exact bY) ?_|refine Wk rfl 37 _ _ rfl w.heap.size MC rfl rfl 37 _ t (by rw[d.out];exact bY) (by rw[d.out,e7.out]) B.out ?_)
   exact⟨rfl,_,cE rfl _ _ w.heap.size 37 MC (0,0) _ rfl V.out WY rfl (by rw[d.out];exact bY),by rw[O.out];exact⟨_,rfl,MC,rfl,e4.out,e3.out⟩,U.out⟩
  by_cases k2:k=2
  ·subst k2
   have N:Hid _:=eV b T p1 X2 HI.out.rd hs;have a:=C.out;rw[V9 vde,V9 vde,Wc (.inl rfl)]at a;unfold So at a;have f:Hid _:=a;clear C a
   go_wp2_with fail
   refine We N.out ?_;rintro e V3 ⟨ht,hf⟩;rcases hw2:dn T.data.toList p1 with⟨E,A⟩|⟨l2,p2⟩
   ·rw[hw2]at ht
    obtain rfl:e=.panicked [gY E A]:=ht;have I:RR=.error (E,A):=by have h:=f.out;rw[hw2]at h;exact h
    exact⟨rfl,by rw[I];rfl,HI.out.fb.trans hf⟩
   rw[hw2]at ht;obtain⟨v,rfl,rfl,J⟩:=ht;obtain⟨-,-,-,l5,e9,p7,q6⟩:=eu hw2;have S:Hid _:=HI.out.step hf J;have a:=f.out;rw[hw2]at a
   change RR=cD (dJ _ _ _) _ at a
   have e5:Hid _:=yC l2 p1 vom V3;have G:Hid _:=a;clear HI N f hf J a hw2 ck
   go_wp2_with fail
   refine We e5.out ?_;rintro e V4 ⟨e6,P,hb⟩;by_cases hE:¬jW l2=0
   ·obtain rfl:=P hE
    have I:RR=.error (jW l2,p1):=by rw[G.out];unfold dJ;rw[V9 hE];rfl
    exact⟨rfl,by rw[I];rfl,(S.out.calm hb).fb⟩
   have hE:=Xk.1 hE;obtain rfl:=e6 hE;have O:Hid (RR=.ok ({ rQ 2 n with key:=⟨l2.toArray⟩ },p2)):=by rw[Hid,G.out,dJ,Wc hE]<;>rfl
   have z:=S.out.calm hb;have y:=z.put (c':=eG ((2:Nat):Int) (n:Int) ⟨l2.toArray⟩ (.slice none 0 0) (.slice none 0 0) (.slice none 0 0) (.slice none 0 0) (fun _=>0) (fun _=>0)) 2 (.string ⟨l2.toArray⟩) (by rw[b9.out];exact SY _ _ _ _ _ _ _ _ _ _);have c1:=af.cell z.box (i:=2) (by rw[b9.out];exact xV _ _ _ _ _ _ _ _ _);have f1:=af.frozen z.box 2;obtain⟨V5,H⟩:∃V5,V5=V4.setCell ⟨V2.heap.size,2,none⟩ (.string ⟨l2.toArray⟩):=⟨_,rfl⟩
   rw[←H]at y;have u:Hid _:=y;clear y z S G e5 P e6 hb hE
   go_upto_region 19 with fail
   rw[←H];clear H c1 f1;obtain⟨MC,l⟩:∃MC,MC=eG ((2:Nat):Int) (n:Int) ⟨l2.toArray⟩ (.slice none 0 0) (.slice none 0 0) (.slice none 0 0) (.slice none 0 0) (fun _=>0) (fun _=>0):=⟨_,rfl⟩
   have M:=u.out.box;rw[←l]at M;have d:Hid (MC.size=59):=by rw[Hid,l];exact bg _ _ _ _ _ _ _ _ _
   have B:Hid (MC.all (·.oneCell')=true):=by rw[Hid,l];exact eU rfl rfl rfl rfl
   have t:=u.out.res;obtain⟨D,F,K⟩:=u.out.fin MC;have V:Hid (af (V5.setRow w.heap.size MC) w.heap.size 37 MC):=af.row t MC;have e4:Hid (Nw w.heap.size (V5.setRow w.heap.size MC).heap.size (fun W=>gW W (.agg MC) { rQ 2 n with key:=⟨l2.toArray⟩ }) (V5.setRow w.heap.size MC)):=K.imp fun W hW=>⟨_,_,_,_,by rw[l];rfl,hW.1,hW.2.1,hW.2.2.1,hW.2.2.2⟩
   have e3:Hid (cV (V5.setRow w.heap.size MC) b T p2):=D;have U:Hid (Fb b w (V5.setRow w.heap.size MC)):=F;clear D F K l u
   go_wp2_with (first|refine Wn rfl 37 _ rfl V2.heap.size rfl 37 MC (0,0) _ M WY rfl (by rw[d.out];exact bY) ?_|refine Wk rfl 37 _ _ rfl w.heap.size MC rfl rfl 37 _ t (by rw[d.out];exact bY) (by rw[d.out,e7.out]) B.out ?_)
   exact⟨rfl,_,cE rfl _ _ w.heap.size 37 MC (0,0) _ rfl V.out WY rfl (by rw[d.out];exact bY),by rw[O.out];exact⟨_,rfl,MC,rfl,e4.out,e3.out⟩,U.out⟩
  by_cases k4:k=4
  ·subst k4
   have N:Hid _:=eV b T p1 X2 HI.out.rd hs;have a:=C.out;rw[V9 vde,V9 vde,Wc (.inr rfl)]at a;unfold So at a;have f:Hid _:=a;clear C a
   go_wp2_with fail
   refine We N.out ?_;rintro e V3 ⟨ht,hf⟩;rcases hw2:dn T.data.toList p1 with⟨E,A⟩|⟨l2,p2⟩
   ·rw[hw2]at ht
    obtain rfl:e=.panicked [gY E A]:=ht;have I:RR=.error (E,A):=by have h:=f.out;rw[hw2]at h;exact h
    exact⟨rfl,by rw[I];rfl,HI.out.fb.trans hf⟩
   rw[hw2]at ht;obtain⟨v,rfl,rfl,J⟩:=ht;obtain⟨-,-,-,l5,e9,p7,q6⟩:=eu hw2;have S:Hid _:=HI.out.step hf J;have a:=f.out;rw[hw2]at a
   change RR=cD (dJ _ _ _) _ at a
   have e5:Hid _:=yC l2 p1 vom V3;have G:Hid _:=a;clear HI N f hf J a hw2 ck
   go_wp2_with fail
   refine We e5.out ?_;rintro e V4 ⟨e6,P,hb⟩;by_cases hE:¬jW l2=0
   ·obtain rfl:=P hE
    have I:RR=.error (jW l2,p1):=by rw[G.out];unfold dJ;rw[V9 hE];rfl
    exact⟨rfl,by rw[I];rfl,(S.out.calm hb).fb⟩
   have hE:=Xk.1 hE;obtain rfl:=e6 hE;have O:Hid (RR=.ok ({ rQ 4 n with key:=⟨l2.toArray⟩ },p2)):=by rw[Hid,G.out,dJ,Wc hE]<;>rfl
   have z:=S.out.calm hb;have y:=z.put (c':=eG ((4:Nat):Int) (n:Int) ⟨l2.toArray⟩ (.slice none 0 0) (.slice none 0 0) (.slice none 0 0) (.slice none 0 0) (fun _=>0) (fun _=>0)) 2 (.string ⟨l2.toArray⟩) (by rw[b9.out];exact SY _ _ _ _ _ _ _ _ _ _);have c1:=af.cell z.box (i:=2) (by rw[b9.out];exact xV _ _ _ _ _ _ _ _ _);have f1:=af.frozen z.box 2;obtain⟨V5,H⟩:∃V5,V5=V4.setCell ⟨V2.heap.size,2,none⟩ (.string ⟨l2.toArray⟩):=⟨_,rfl⟩
   rw[←H]at y;have u:Hid _:=y;clear y z S G e5 P e6 hb hE
   go_upto_region 19 with fail
   rw[←H];clear H c1 f1;obtain⟨MC,l⟩:∃MC,MC=eG ((4:Nat):Int) (n:Int) ⟨l2.toArray⟩ (.slice none 0 0) (.slice none 0 0) (.slice none 0 0) (.slice none 0 0) (fun _=>0) (fun _=>0):=⟨_,rfl⟩
   have M:=u.out.box;rw[←l]at M;have d:Hid (MC.size=59):=by rw[Hid,l];exact bg _ _ _ _ _ _ _ _ _
   have B:Hid (MC.all (·.oneCell')=true):=by rw[Hid,l];exact eU rfl rfl rfl rfl
   have t:=u.out.res;obtain⟨D,F,K⟩:=u.out.fin MC;have V:Hid (af (V5.setRow w.heap.size MC) w.heap.size 37 MC):=af.row t MC;have e4:Hid (Nw w.heap.size (V5.setRow w.heap.size MC).heap.size (fun W=>gW W (.agg MC) { rQ 4 n with key:=⟨l2.toArray⟩ }) (V5.setRow w.heap.size MC)):=K.imp fun W hW=>⟨_,_,_,_,by rw[l];rfl,hW.1,hW.2.1,hW.2.2.1,hW.2.2.2⟩
   have e3:Hid (cV (V5.setRow w.heap.size MC) b T p2):=D;have U:Hid (Fb b w (V5.setRow w.heap.size MC)):=F;clear D F K l u
   go_wp2_with (first|refine Wn rfl 37 _ rfl V2.heap.size rfl 37 MC (0,0) _ M WY rfl (by rw[d.out];exact bY) ?_|refine Wk rfl 37 _ _ rfl w.heap.size MC rfl rfl 37 _ t (by rw[d.out];exact bY) (by rw[d.out,e7.out]) B.out ?_)
   exact⟨rfl,_,cE rfl _ _ w.heap.size 37 MC (0,0) _ rfl V.out WY rfl (by rw[d.out];exact bY),by rw[O.out];exact⟨_,rfl,MC,rfl,e4.out,e3.out⟩,U.out⟩
  by_cases k5:k=5
  ·subst k5
   have N:Hid _:=NY b T p1 X2 HI.out.rd hs (q5.out _ HI.out.fb).1 hgb.1;have a:=C.out;rw[V9 vde,V9 vde,V9 (fun h=>h.elim vde vde),Wc rfl]at a;have f:Hid _:=a;clear C a
   go_wp2_with fail
   refine We N.out ?_;rintro e V3 ⟨ht,hf⟩;rcases hw2:GW T.data.toList p1 with⟨E,A⟩|⟨x,p2⟩
   ·rw[hw2]at ht
    obtain rfl:e=.panicked [gY E A]:=ht;have I:RR=.error (E,A):=by have h:=f.out;rw[hw2]at h;exact h
    exact⟨rfl,by rw[I];rfl,HI.out.fb.trans hf⟩
   rw[hw2]at ht;obtain⟨v,rfl,j3,J⟩:=ht;have j0:=HI.out.step hf J;have O:Hid (RR=.ok ({ rQ 5 n with r:=x.1,L:=fun _=>x.1,Z:=fun i j=>((x.2.getD (i*x.1+j) 0:Nat):Int) },p2)):=by have h:=f.out;rw[hw2]at h;exact h
   have s0:=af.lt HI.out.box;obtain⟨ga,gc,_,rfl,-⟩:=j3.here;have z:=j0.more (Q:=Ur (.slice ga x.1 gc) (.slice none 0 0) (.slice none 0 0) (.slice none 0 0) { rQ 5 n with r:=x.1,L:=fun _=>x.1,Z:=fun i j=>((x.2.getD (i*x.1+j) 0:Nat):Int) }) (fun W2 h2=>⟨(j3.mono (show V2.heap.size+1≤X2.heap.size by omega) (R3 _)) W2 h2,(j0.nw W2 h2).2⟩);have y:=z.put (c':=eG ((5:Nat):Int) (n:Int) ⟨#[]⟩ (.slice ga x.1 gc) (.slice none 0 0) (.slice none 0 0) (.slice none 0 0) (fun _=>0) (fun _=>0)) 3 (.slice ga x.1 gc) (by rw[b9.out];exact Uy _ _ _ _ _ _ _ _ _ _);have c1:=af.cell z.box (i:=3) (by rw[b9.out];exact AZ _ _ _ _ _ _ _ _ _);have f1:=af.frozen z.box 3;obtain⟨V5,H⟩:∃V5,V5=V3.setCell ⟨V2.heap.size,3,none⟩ (.slice ga x.1 gc):=⟨_,rfl⟩
   rw[←H]at y;have u:Hid _:=y;clear y j0 z HI f N hf J j3 hw2 s0 ck
   go_upto_region 19 with fail
   rw[←H];clear H c1 f1;obtain⟨MC,l⟩:∃MC,MC=eG ((5:Nat):Int) (n:Int) ⟨#[]⟩ (.slice ga x.1 gc) (.slice none 0 0) (.slice none 0 0) (.slice none 0 0) (fun _=>0) (fun _=>0):=⟨_,rfl⟩
   have M:=u.out.box;rw[←l]at M;have d:Hid (MC.size=59):=by rw[Hid,l];exact bg _ _ _ _ _ _ _ _ _
   have B:Hid (MC.all (·.oneCell')=true):=by rw[Hid,l];exact eU rfl rfl rfl rfl
   have t:=u.out.res;obtain⟨D,F,K⟩:=u.out.fin MC;have V:Hid (af (V5.setRow w.heap.size MC) w.heap.size 37 MC):=af.row t MC;have e4:Hid (Nw w.heap.size (V5.setRow w.heap.size MC).heap.size (fun W=>gW W (.agg MC) { rQ 5 n with r:=x.1,L:=fun _=>x.1,Z:=fun i j=>((x.2.getD (i*x.1+j) 0:Nat):Int) }) (V5.setRow w.heap.size MC)):=K.imp fun W hW=>⟨_,_,_,_,by rw[l];rfl,hW.1,hW.2.1,hW.2.2.1,hW.2.2.2⟩
   have e3:Hid (cV (V5.setRow w.heap.size MC) b T p2):=D;have U:Hid (Fb b w (V5.setRow w.heap.size MC)):=F;clear D F K l u
   go_wp2_with (first|refine Wn rfl 37 _ rfl V2.heap.size rfl 37 MC (0,0) _ M WY rfl (by rw[d.out];exact bY) ?_|refine Wk rfl 37 _ _ rfl w.heap.size MC rfl rfl 37 _ t (by rw[d.out];exact bY) (by rw[d.out,e7.out]) B.out ?_)
   exact⟨rfl,_,cE rfl _ _ w.heap.size 37 MC (0,0) _ rfl V.out WY rfl (by rw[d.out];exact bY),by rw[O.out];exact⟨_,rfl,MC,rfl,e4.out,e3.out⟩,U.out⟩
  by_cases k6:k=6
  ·subst k6
   have N:Hid _:=MN b T p1 X2 HI.out.rd hs;have a:=C.out;rw[V9 vde,V9 vde,V9 (fun h=>h.elim vde vde),V9 vde,Wc rfl]at a;have f:Hid _:=a;clear C a
   go_wp2_with fail
   refine We N.out ?_;rintro e V3 ⟨ht,hf⟩;rcases hw2:uD T.data.toList p1 with⟨E,A⟩|⟨x,p2⟩
   ·rw[hw2]at ht
    obtain rfl:e=.panicked [gY E A]:=ht;have I:RR=.error (E,A):=by have h:=f.out;rw[hw2]at h;exact h
    exact⟨rfl,by rw[I];rfl,HI.out.fb.trans hf⟩
   rw[hw2]at ht;obtain⟨v,rfl,j3,J⟩:=ht;have j0:=HI.out.step hf J;have O:Hid (RR=.ok ({ rQ 6 n with g:=x },p2)):=by have h:=f.out;rw[hw2]at h;exact h
   have s0:=af.lt HI.out.box;obtain⟨ma,mb,mc,rfl,⟨_a1,_c1,_,rfl,-⟩,⟨_a2,_c2,rfl,-⟩,⟨_a3,_c3,rfl,-⟩⟩:=j3.here
   have z:=j0.more (Q:=Ur (.slice none 0 0) (.slice _a1 x.n _c1) (.slice _a2 x.rl _c2) (.slice _a3 x.sl _c3) { rQ 6 n with g:=x }) (fun W2 h2=>by
    obtain⟨a2,b2,c2,e2,k1,k2,k3⟩:=(j3.mono (show V2.heap.size+1≤X2.heap.size by omega) (R3 _)) W2 h2;injection e2 with e2;have q0:=XI (fun m:Array Value=>m[0]?) e2;have q1:=XI (fun m:Array Value=>m[1]?) e2;have q2:=XI (fun m:Array Value=>m[2]?) e2;simp only[dV,rV,gM,Option.some.injEq]at q0 q1 q2;rw[←q0]at k1;rw[←q1]at k2;rw[←q2]at k3;exact⟨(j0.nw W2 h2).1,k1,k2,k3⟩)
   have r5:Hid ((aP (.slice _a1 x.n _c1) (.slice _a2 x.rl _c2) (.slice _a3 x.sl _c3) x.rf x.pl).size=55):=aD _ _ _ _ _;have v7:Hid ((aP (.slice _a1 x.n _c1) (.slice _a2 x.rl _c2) (.slice _a3 x.sl _c3) x.rf x.pl).all (·.oneCell')=true):=mU rfl rfl rfl;have s6:=z.there (o:=4) (n:=55) (by rw[o6.out];omega);have k7:=z.lay (c':=eG ((6:Nat):Int) (n:Int) ⟨#[]⟩ (.slice none 0 0) (.slice _a1 x.n _c1) (.slice _a2 x.rl _c2) (.slice _a3 x.sl _c3) x.rf x.pl) 4 (aP (.slice _a1 x.n _c1) (.slice _a2 x.rl _c2) (.slice _a3 x.sl _c3) x.rf x.pl).toList (by rw[b9.out];exact UJ _ _ _ _ _ _ _ _ _ _ _ _ _ _);obtain⟨MA,w6⟩:∃MA,MA=aP (.slice _a1 x.n _c1) (.slice _a2 x.rl _c2) (.slice _a3 x.sl _c3) x.rf x.pl:=⟨_,rfl⟩
   rw[←w6]at r5 v7 k7⊢;obtain⟨V5,H⟩:∃V5,V5=V3.setCells V2.heap.size 4 MA.toList:=⟨_,rfl⟩
   rw[←H]at k7;have u:Hid _:=k7;clear k7 j0 z HI f N hf J j3 hw2 s0 ck w6
   go_upto_region 19 with(first|refine ZG rfl 35 _ _ rfl V2.heap.size 4 MA rfl rfl (by rw[r5.out];exact s6) (by rw[r5.out];exact aE) v7.out ?_)
   rw[←H];clear H s6;obtain⟨MC,l⟩:∃MC,MC=eG ((6:Nat):Int) (n:Int) ⟨#[]⟩ (.slice none 0 0) (.slice _a1 x.n _c1) (.slice _a2 x.rl _c2) (.slice _a3 x.sl _c3) x.rf x.pl:=⟨_,rfl⟩
   have M:=u.out.box;rw[←l]at M;have d:Hid (MC.size=59):=by rw[Hid,l];exact bg _ _ _ _ _ _ _ _ _
   have B:Hid (MC.all (·.oneCell')=true):=by rw[Hid,l];exact eU rfl rfl rfl rfl
   have t:=u.out.res;obtain⟨D,F,K⟩:=u.out.fin MC;have V:Hid (af (V5.setRow w.heap.size MC) w.heap.size 37 MC):=af.row t MC;have e4:Hid (Nw w.heap.size (V5.setRow w.heap.size MC).heap.size (fun W=>gW W (.agg MC) { rQ 6 n with g:=x }) (V5.setRow w.heap.size MC)):=K.imp fun W hW=>⟨_,_,_,_,by rw[l];rfl,hW.1,hW.2.1,hW.2.2.1,hW.2.2.2⟩
   have e3:Hid (cV (V5.setRow w.heap.size MC) b T p2):=D;have U:Hid (Fb b w (V5.setRow w.heap.size MC)):=F;clear D F K l u
   go_wp2_with (first|refine Wn rfl 37 _ rfl V2.heap.size rfl 37 MC (0,0) _ M WY rfl (by rw[d.out];exact bY) ?_|refine Wk rfl 37 _ _ rfl w.heap.size MC rfl rfl 37 _ t (by rw[d.out];exact bY) (by rw[d.out,e7.out]) B.out ?_)
   exact⟨rfl,_,cE rfl _ _ w.heap.size 37 MC (0,0) _ rfl V.out WY rfl (by rw[d.out];exact bY),by rw[O.out];exact⟨_,rfl,MC,rfl,e4.out,e3.out⟩,U.out⟩
  have nk1:(((k:Nat):Int)==1)=false:=XR vom;have nk2:(((k:Nat):Int)==2)=false:=XR vom;have nk3:(((k:Nat):Int)==3)=false:=XR vom;have nk4:(((k:Nat):Int)==4)=false:=XR vom;have nk5:(((k:Nat):Int)==5)=false:=XR vom;have nk6:(((k:Nat):Int)==6)=false:=XR vom
  have O:Hid (RR=.ok (rQ k n,p1)):=by
   rw[Hid,C.out,V9 k1,V9 k3,V9 (fun h=>h.elim k2 k4),V9 k5,V9 k6]
  rw[b9.out]at HI;have u:Hid _:=HI.out;clear HI C k1 k2 k3 k4 k5 k6
  go_upto_region 19 with fail
  obtain⟨MC,l⟩:∃MC,MC=stA k n:=⟨_,rfl⟩
  have M:=u.out.box;rw[←l]at M;have d:Hid (MC.size=59):=by rw[Hid,l];exact bg _ _ _ _ _ _ _ _ _
  have B:Hid (MC.all (·.oneCell')=true):=by rw[Hid,l];exact eU rfl rfl rfl rfl
  have t:=u.out.res;obtain⟨D,F,K⟩:=u.out.fin MC;have V:Hid (af (X2.setRow w.heap.size MC) w.heap.size 37 MC):=af.row t MC;have e4:Hid (Nw w.heap.size (X2.setRow w.heap.size MC).heap.size (fun W=>gW W (.agg MC) (rQ k n)) (X2.setRow w.heap.size MC)):=K.imp fun W hW=>⟨_,_,_,_,by rw[l];rfl,hW.1,hW.2.1,hW.2.2.1,hW.2.2.2⟩
  have e3:Hid (cV (X2.setRow w.heap.size MC) b T p1):=D;have U:Hid (Fb b w (X2.setRow w.heap.size MC)):=F;clear D F K l u
  go_wp2_with (first|refine Wn rfl 37 _ rfl V2.heap.size rfl 37 MC (0,0) _ M WY rfl (by rw[d.out];exact bY) ?_|refine Wk rfl 37 _ _ rfl w.heap.size MC rfl rfl 37 _ t (by rw[d.out];exact bY) (by rw[d.out,e7.out]) B.out ?_)
  exact⟨rfl,_,cE rfl _ _ w.heap.size 37 MC (0,0) _ rfl V.out WY rfl (by rw[d.out];exact bY),by rw[O.out];exact⟨_,rfl,MC,rfl,e4.out,e3.out⟩,U.out⟩
end Go.Proofs.YtpcnpkhgjanamaaGreatDoor
