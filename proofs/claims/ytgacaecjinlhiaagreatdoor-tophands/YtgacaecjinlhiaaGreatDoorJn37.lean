import Derived.Test.YtgacaecjinlhiaaGreatDoorScSw
namespace Go.Proofs.YtgacaecjinlhiaaGreatDoor
section
open Go.RowKit PK Vg
structure SpO (W:World) (B:Nat) (v:Value) (k:Nat) (l:Nat→Sp) (R:Nat→Array Value):Prop where
 own:W.ownsRow B 64 59 v k (rws R k)
 size:∀j,j<k→(R j).size=59
 each:∀j,j<k→∃b e,B≤b∧e≤W.heap.size∧(∀g,v.ownBlock=some g→g<b∨e≤g)∧Nw b e (fun W=>fo W (.agg (R j)) (l j)) W
theorem oJ {W:World} {c:Array Value} {s:Sp} (h:fo W (.agg c) s):c.size=59∧c.all (·.oneCell')=true:=by
 obtain ⟨mv,a,b,d,h1,h2,h3,h4,h5⟩:=h
 injection h1 with h1
 obtain ⟨_,_,_,rfl,_⟩:=h2
 obtain ⟨_,_,_,rfl,_⟩:=h3
 obtain ⟨_,_,rfl,_⟩:=h4
 obtain ⟨_,_,rfl,_⟩:=h5
 rw[h1]
 exact ⟨aS _ _ _ _ _ _ _ _ _,dQ rfl rfl rfl rfl⟩
section
variable {W W':World} {B k b:Nat} {v v':Value} {l l':Nat→Sp} {R R':Nat→Array Value} {row:Option Nat}
theorem SpO.fb (h:SpO W B v k l R) (hf:Fb b W W') (hb:b<B):SpO W' B v k l R:=by
 refine ⟨?_,h.size,fun j hj=>?_⟩
 ·obtain ⟨h1,h2⟩:=h.own
  refine ⟨h1,?_⟩
  rcases h2 with h2 | ⟨g,cap,cur,e,hB,hg,h3⟩
  ·exact .inl h2
  ·exact .inr ⟨g,cap,cur,e,hB,(hf.block g (Array.getElem?_eq_some_iff.1 hg).1 (by omega)).trans hg,h3⟩
 ·obtain ⟨b2,e,h1,h2,h3,h4⟩:=h.each j hj
  refine ⟨b2,e,h1,Nat.le_trans h2 hf.size,h3,h4.keep fun i o x h5 _ h6=>?_⟩
  have:=hf.block i (aA h6) (by omega)
  simp only[World.cell?,this] at h6 ⊢
  exact h6
theorem SpO.below (h:SpO W B v k l R) (hb:Below W.heap.size W W'):SpO W' B v k l R:=by
 refine ⟨pX h.own hb,h.size,fun j hj=>?_⟩
 obtain ⟨b,e,h1,h2,h3,h4⟩:=h.each j hj
 exact ⟨b,e,h1,Nat.le_trans h2 hb.size,h3,h4.below hb⟩
theorem nC {f g:Nat→Array Value}:∀{k:Nat},(∀j,j<k→f j=g j)→rws f k=rws g k
 | 0,_=>rfl
 | k+1,h=>by rw[rws,rws,nC (fun j hj=>h j (by omega)),h k (by omega)]
theorem SpO.congr (h:SpO W B v k l R) (hl:∀j,j<k→l' j=l j) (hR:∀j,j<k→R' j=R j):SpO W B v k l' R':=by
 refine ⟨by rw[nC hR];exact h.own,fun j hj=>by rw[hR j hj];exact h.size j hj,fun j hj=>?_⟩
 rw[hR j hj,hl j hj]
 exact h.each j hj
theorem SpO.more {c:Array Value} {s:Sp} (h:SpO W B v k l R) (hB:B≤b) (hvb:∀g,v.ownBlock=some g→g<b) (hQ:Nw b W.heap.size (fun W=>fo W (.agg c) s) W)
  (hown:W'.ownsRow B 64 59 v' (k+1) (rws R k++c.toList)) (hg:W.grownBy W' v.ownBlock) (hat:v'.ownBlock=v.ownBlock∨v'.ownBlock=some W.heap.size) :
  SpO W' B v' (k+1) (fun i=>if i=k then s else l i) (fun i=>if i=k then c else R i):=by
 have hc:=(oJ hQ.here).1
 refine ⟨?_,fun j hj=>?_,fun j hj=>?_⟩
 ·rw[rws,nC (g:=R) (fun j hj=>if_neg (by omega)),if_pos rfl]
  exact hown
 ·by_cases e:j=k
  ·rw[if_pos e];exact hc
  ·rw[if_neg e];exact h.size j (by omega)
 ·by_cases ej:j=k
  ·subst ej
   simp only[if_pos]
   refine ⟨b,W.heap.size,hB,hg.size,fun g hgv=>?_,hQ.grown hg (fun r hr=>.inl (.inl (hvb r hr)))⟩
   rcases hat with h1 | h1
   ·exact .inl (hvb g (h1 ▸ hgv))
   ·rw[h1] at hgv;cases hgv;exact .inr (Nat.le_refl _)
  ·obtain ⟨b2,e,h1,h2,h3,h4⟩:=h.each j (by omega)
   simp only[if_neg ej]
   refine ⟨b2,e,h1,Nat.le_trans h2 hg.size,fun g hgv=>?_,h4.grown hg (fun r hr=>.inl (h3 r hr))⟩
   rcases hat with h5 | h5
   ·exact h3 g (h5 ▸ hgv)
   ·rw[h5] at hgv;cases hgv;exact .inr h2
theorem SpO.first {c:Array Value} {s:Sp} (hB:B≤W.heap.size) (hQ:Nw B W.heap.size (fun W=>fo W (.agg c) s) W):SpO (W.alloc (.cells c 64)) B (.slice (some ⟨W.heap.size,0,none⟩) 1 1) 1 (fun _=>s) (fun _=>c):=by
 have hc:=(oJ hQ.here).1
 refine ⟨⟨?_,.inr ⟨W.heap.size,1,c,rfl,hB,?_,Nat.le_refl _,by decide,by rw[hc],?_⟩⟩,fun _ _=>hc,fun j hj=>⟨B,W.heap.size,Nat.le_refl _,by rw[World.size_alloc];omega,fun g hg=>?_,hQ.below ((Below.refl _ W).alloc (Nat.le_refl _) _)⟩⟩
 ·simp[rws,hc]
 ·exact af.new W 64 c
 ·simp only[rws,List.nil_append]
  rw[List.take_of_length_le (by rw[Array.length_toList,hc];decide)]
 ·cases hg;exact .inr (Nat.le_refl _)
theorem SpO.chain (h:SpO W B v k l R):Nw B W.heap.size (fun W=>kL W v k l) W:=by
 intro W' hk
 obtain ⟨a,cap,rfl,hm,hr⟩:=sF h.own h.size
 refine ⟨a,cap,R,rfl,hm,fun r hrk=>?_,fun r hrk=>?_⟩
 ·obtain ⟨b,o,rfl,hb,hc⟩:=hr r hrk
  exact ⟨b,o,rfl,fun j v hv=>hk b _ _ hb (aA (hc j v hv)) (hc j v hv)⟩
 ·obtain ⟨b,e,h1,h2,_,h4⟩:=h.each r hrk
  exact h4 W' (fun b2 o x h5 h6 h7=>hk b2 o x (by omega) (by omega) h7)
end
theorem Df:(Tryz.prog.info? 64).map (fun i=>(i.zero,i.size))=some (some (.agg (spA 0 0 ⟨#[]⟩ (.slice none 0 0) (.slice none 0 0) (.slice none 0 0) (.slice none 0 0) (fun _=>0) (fun _=>0))),59):=by kernel_rfl
section
variable {P:Program}
theorem jj {ops:Array Oper} {rest:List Oper} {op:Oper} {a:Act} {w:World} {Q:Exit→Act→World→Prop} (hgd:op.guard=none) (t e:TypeId) (x:Operand) (ho:op.op=.buildSlice t 1 #[(0,x)])
  (n:Nat) (z c:Array Value) (hx:a.eval x=.agg c) (hn:n*2≤2 ^ 24) (h0:0<n) (hu:P.underlying t=some (.slice e)) (hzs:z.size=n) (hc:c.size=n) (hz:(P.info? e).map (fun i=>(i.zero,i.size))=some (some (.agg z),n))
  (h:wpList P ops Q rest (a.put op.dst (.slice (some ⟨w.heap.size,0,none⟩) 1 1)) (w.alloc (.cells c e))):wpList P ops Q (op :: rest) a w :=
 wpList_plain hgd fun _ hK=>by
  unfold Oper.wp execOp
  have hm:(#[(0,x)]:Array (Nat × Operand)).map (fun (i,x)=>(i,a.eval x))=#[(0,.agg c)]:=by simp[hx]
  simp only[ho,Sem.run_bind,hm,oe w t e n hn h0 hu z c hzs hc hz,Result.andThen_ok]
  exact hK _ _ h
end
end
section
open Go.RowKit PK Vg
theorem Al:(Tryz.prog.info? 64).map (fun i=>(i.zero,i.size,i.bytes))=some (some (.agg (spA 0 0 ⟨#[]⟩ (.slice none 0 0) (.slice none 0 0) (.slice none 0 0) (.slice none 0 0) (fun _=>0) (fun _=>0))),59,544):=by kernel_rfl
def slN:Value→Nat
 | .slice _ n _=>n
 | _=>0
theorem B4 {t:List UInt8} {place p:Nat} {x:Sp × Nat} (h:fD t place p=.ok x):place<64:=by
 unfold fD at h
 rcases hw:cF t p with e | ⟨l,q⟩
 ·rw[hw] at h;cases h
 ·rw[hw] at h
  change (match nmK ⟨l.toArray⟩ with | none=>_ | some (k,n)=>_)=_ at h
  cases hk:nmK ⟨l.toArray⟩ with
  | none=>rw[hk] at h;cases h
  | some kn =>
   obtain ⟨k,n⟩:=kn
   rw[hk] at h
   change (if 64≤place then _ else _)=_ at h
   by_cases h64:64≤place
   ·rw[if_pos h64] at h;cases h
   ·omega
def spD (L:List Sp) (i:Nat):Sp:=L.getD i (sp0 0 0)
theorem GP {L:List Sp} {s:Sp} {j:Nat} (h:j<L.length):spD (L++[s]) j=spD L j:=by
 unfold spD
 simp only[List.getD]
 rw[List.getElem?_append_left h]
theorem GV (L:List Sp) (s:Sp):spD (L++[s]) L.length=s:=by
 unfold spD
 simp only[List.getD]
 rw[List.getElem?_append_right (Nat.le_refl _),Nat.sub_self]
 rfl
structure ChI (w W:World) (b:Nat) (T:ByteArray) (v:Value) (L:List Sp) (R:Nat→Array Value) (p:Nat):Prop where
 own:SpO W w.heap.size v L.length (spD L) R
 rd:b8 W b T p
 fb:Fb b w W
 ne:b<w.heap.size
theorem ChI.calm {w W W':World} {b:Nat} {T:ByteArray} {v:Value} {L:List Sp} {R:Nat→Array Value} {p:Nat} (h:ChI w W b T v L R p) (hb:Below W.heap.size W W'):ChI w W' b T v L R p :=
 ⟨h.own.below hb,af.below h.rd hb (af.lt h.rd),h.fb.trans (Fb.of hb),h.ne⟩
theorem ChI.step {w W W':World} {b:Nat} {T:ByteArray} {v:Value} {L:List Sp} {R:Nat→Array Value} {p q:Nat} (h:ChI w W b T v L R p) (hf:Fb b W W') (hr:b8 W' b T q):ChI w W' b T v L R q :=
 ⟨h.own.fb hf h.ne,hr,h.fb.trans hf,h.ne⟩
theorem Fb.grown {b:Nat} {A B C:World} {row:Option Nat} (h:Fb b A B) (hg:B.grownBy C row) (hr:∀r,row=some r→A.heap.size≤r):Fb b A C :=
 ⟨hg.os.trans h.os,hg.tape.trans h.tape,hg.output.trans h.output,Nat.le_trans h.size hg.size,fun i hi hb=>(hg.block i (by have:=h.size;omega) (fun e=>by have:=hr i e.symm;omega)).trans (h.block i hi hb)⟩
set_option maxRecDepth 100000 in
set_option maxHeartbeats 4000000 in
theorem td (b:Nat) (T:ByteArray) (w:World) (hr:b8 w b T 0) (hs:T.size≤65536) (hn:iE w) (he:fu w) (hgb:gv<b∧1<b):Calls Tryz.prog 20 #[.pointer (some ⟨b,0,none⟩)] w fun e w'=>Told (bU (fD T.data.toList 0 0) fun s q=>j0 T.data.toList 66 [s] q) e (fun L _ v=>Nw w.heap.size w'.heap.size (fun W=>kL W v L.length (spD L)) w')∧Fb b w w':=by
 have hbl:=af.lt hr
 obtain ⟨RR,hRR0⟩:∃RR,RR=(bU (fD T.data.toList 0 0) fun s q=>j0 T.data.toList 66 [s] q):=⟨_,rfl⟩
 have HRM:Hid (RR=(bU (fD T.data.toList 0 0) fun s q=>j0 T.data.toList 66 [s] q)):=hRR0
 rw[←hRR0]
 clear hRR0
 have htl:=Pl.aK T
 have HGL:Hid (∀W,Fb b w W→fu W∧iE W):=fun W hW=>⟨he.fb hW hgb.1,hn.fb hW hgb.2⟩
 have HST:Hid _:=oa b T 0 0 w hr hs hn he hgb (by omega)
 obtain ⟨i0,hi0,hz0,hz1,hz2⟩:=EJ Al
 clear hr hn he
 go_enter Tryz.func20,Tryz.ntmps20
 go_wp2_with fail
 refine Calls.mono HST.out ?_
 rintro e V1 ⟨ht,hf⟩
 rcases hw1:fD T.data.toList 0 0 with ⟨E,A⟩ | ⟨s1,p1⟩
 ·rw[hw1] at ht
  obtain rfl:e=.panicked [flt E A]:=ht
  have hRR:RR=.error (E,A):=by have h:=HRM.out;rw[hw1] at h;exact h
  exact ⟨rfl,by rw[hRR];rfl,hf⟩
 rw[hw1] at ht
 obtain ⟨v,rfl,c,rfl,hnw,hrd⟩:=ht
 have HRM1:Hid (RR=j0 T.data.toList 66 [s1] p1):=by have h:=HRM.out;rw[hw1] at h;exact h
 have hc59:=(oJ hnw.here).1
 have hI0:ChI w (V1.alloc (.cells c 64)) b T (.slice (some ⟨V1.heap.size,0,none⟩) 1 1) [s1] (fun _=>c) p1:=by
  refine ⟨(SpO.first hf.size hnw).congr (fun j hj=>?_) (fun _ _=>rfl),af.alloc hrd _,hf.trans (Fb.alloc b _ _),hbl⟩
  obtain rfl:j=0:=by simp at hj;omega
  rfl
 have HI0:Hid _:=hI0
 clear hI0 HRM HST hw1 hf hrd hnw
 go_upto_region 2 with (first | refine jj rfl 35 64 _ rfl 59 (spA 0 0 ⟨#[]⟩ (.slice none 0 0) (.slice none 0 0) (.slice none 0 0) (.slice none 0 0) (fun _=>0) (fun _=>0)) c rfl (by decide) (by decide) Tryz.underlying35 (aS _ _ _ _ _ _ _ _ _) hc59 Df ?_)
 go_loopw [3] (fun o W=>∃(L:List Sp) (R:Nat→Array Value) (p:Nat) (g:Option Addr) (cp:Nat),o=.slice g L.length cp∧(1≤L.length∧L.length≤64)∧Hid (RR=j0 T.data.toList (67-L.length) L p)∧Hid (ChI w W b T (.slice g L.length cp) L R p)) (fun o _=>65-slN o)
 case atStart=>exact ⟨[s1],fun _=>c,p1,_,_,rfl,⟨by simp,by simp⟩,HRM1,HI0⟩
 case round =>
  clear HI0 HRM1 hc59
  obtain ⟨L,R,p,g,cp,rfl,⟨hl1,hl2⟩,HRM,HI⟩:=hrel
  have HEN:Hid _:=jL b T p wr HI.out.rd
  obtain ⟨k,hk⟩:∃k,k=L.length:=⟨_,rfl⟩
  rw[←hk] at hl1 hl2 ⊢
  have HK:Hid (L.length=k):=hk.symm
  clear hk
  go_wp2_with fail
  refine Calls.mono HEN.out ?_
  rintro e V2 ⟨rfl,hb⟩
  have HI2:Hid _:=HI.out.calm hb
  have hrm:=HRM.out
  rw[HK.out,show 67-k=(66-k)+1 by omega] at hrm
  change RR=(if T.data.toList.length<p then _ else _) at hrm
  clear HI HEN HRM hb
  by_cases hend:T.size<p
  ·have hd:decide (T.size<p)=true:=by simpa using hend
   rw[hd]
   have HRR:Hid (RR=.ok (L,p)):=by rw[Hid,hrm,if_pos (by omega)]
   clear hd hend hrm
   go_wp2
   go_ret
   refine ⟨?_,HI2.out.fb⟩
   rw[HRR.out]
   exact ⟨_,rfl,by rw[←HK.out];exact HI2.out.own.chain⟩
  ·have hd:decide (T.size<p)=false:=by simpa using hend
   rw[hd]
   rw[if_neg (by omega)] at hrm
   have HRM:Hid _:=hrm
   have HWD:Hid _:=dL b T p V2 HI2.out.rd hs
   clear hd hrm hend
   go_wp2_with fail
   refine Calls.mono HWD.out ?_
   rintro e V3 ⟨ht,hf⟩
   rcases hw2:cF T.data.toList p with ⟨E,A⟩ | ⟨l2,p2⟩
   ·rw[hw2] at ht
    obtain rfl:e=.panicked [flt E A]:=ht
    have hRR:RR=.error (E,A):=by have h:=HRM.out;rw[hw2] at h;exact h
    exact ⟨rfl,by rw[hRR];rfl,HI2.out.fb.trans hf⟩
   rw[hw2] at ht
   obtain ⟨v,rfl,rfl,hrd⟩:=ht
   have hrm:=HRM.out
   rw[hw2] at hrm
   change RR=(if l2=[124] then _ else _) at hrm
   obtain ⟨X3,hX3⟩:∃X3,X3=V3.alloc (.cells #[.string ⟨l2.toArray⟩,.int .i64 (p:Int)] 91):=⟨_,rfl⟩
   have hI4:ChI w X3 b T (.slice g L.length cp) L R p2:=by rw[hX3];exact (HI2.out.step hf hrd).calm ((Below.refl _ _).alloc (Nat.le_refl _) _)
   have hwr:af X3 V3.heap.size 91 #[.string ⟨l2.toArray⟩,.int .i64 (p:Int)]:=by rw[hX3];exact af.new V3 _ _
   have c0:=af.cell hwr (i:=0) rfl
   have c1:=af.cell hwr (i:=1) rfl
   have HI4:Hid _:=hI4
   have HRM3:Hid _:=hrm
   clear HRM HWD HI2 hI4 hf hrd hw2 hrm hwr
   unfold wdV
   go_upto_region 4 with fail
   rw[←hX3]
   clear hX3
   by_cases hbar:l2=[124]
   ·have hbn:(l2==[124])=true:=by simpa using hbar
    have HRM:Hid (RR=bU (fD T.data.toList k p2) fun s q'=>j0 T.data.toList (66-k) (L++[s]) q'):=by rw[Hid,HRM3.out,if_pos hbar,HK.out]
    have HST:Hid _:=oa b T p2 k X3 HI4.out.rd hs (HGL.out _ HI4.out.fb).2 (HGL.out _ HI4.out.fb).1 hgb hl2
    clear HRM3 hbar
    go_wp2_with fail
    refine Calls.mono HST.out ?_
    rintro e V5 ⟨ht,hf⟩
    rcases hw3:fD T.data.toList k p2 with ⟨E,A⟩ | ⟨s,p3⟩
    ·rw[hw3] at ht
     obtain rfl:e=.panicked [flt E A]:=ht
     have hRR:RR=.error (E,A):=by have h:=HRM.out;rw[hw3] at h;exact h
     exact ⟨rfl,by rw[hRR];rfl,HI4.out.fb.trans hf⟩
    have hk64:=B4 hw3
    rw[hw3] at ht
    obtain ⟨v,rfl,c,rfl,hnw,hrd⟩:=ht
    have HRM5:Hid (RR=j0 T.data.toList (66-k) (L++[s]) p3):=by have h:=HRM.out;rw[hw3] at h;exact h
    obtain ⟨hc59,hc1⟩:=oJ hnw.here
    have hI5:=HI4.out.step hf hrd
    have HOW:Hid (∀g',(Value.slice g L.length cp).ownBlock=some g'→w.heap.size≤g'∧g'<X3.heap.size):=fun g' hg'=>World.ownsRow.lt HI4.out.own.own g' hg'
    have hsz5:X3.heap.size≤V5.heap.size:=hf.size
    have hwz:w.heap.size≤V5.heap.size:=hI5.fb.size
    have HX3:Hid (w.heap.size≤X3.heap.size):=HI4.out.fb.size
    have hown:=hI5.own.own
    rw[HK.out] at hown
    have HI5:Hid _:=hI5
    have HNW:Hid (Nw X3.heap.size V5.heap.size (fun W=>fo W (.agg c) s) V5):=hnw
    have HC1:Hid (c.all (·.oneCell')=true):=hc1
    clear hI5 hnw hc1 hrd hf HST HRM hw3 HI4 c0 c1
    go_wp2_with (first | refine jj rfl 35 64 _ rfl 59 (spA 0 0 ⟨#[]⟩ (.slice none 0 0) (.slice none 0 0) (.slice none 0 0) (.slice none 0 0) (fun _=>0) (fun _=>0)) c rfl (by decide) (by decide) Tryz.underlying35 (aS _ _ _ _ _ _ _ _ _) hc59 Df ?_ | (at_builtin;refine wpList_append_own_at _ rfl _ _ 35 rfl w.heap.size 64 i0 (.agg (spA 0 0 ⟨#[]⟩ (.slice none 0 0) (.slice none 0 0) (.slice none 0 0) (.slice none 0 0) (fun _=>0) (fun _=>0))) 59 544 Tryz.underlying35 hi0 hz0 hz1 hz2 (aS _ _ _ _ _ _ _ _ _) (by decide) _ _ _ rfl (World.ownsRow.alloc hown _) ⟨V5.heap.size,0,none⟩ 1 1 c.toList rfl (by rw[Array.length_toList,hc59]) (fun q u hu=>by rw[Addr.add_mid,Nat.zero_add];exact (af.new V5 64 c).cell (by rw[←Array.getElem?_toList];exact hu)) (fun u hu=>by have:=HC1.out;rw[←Array.all_toList] at this;exact List.all_eq_true.1 this u hu) (by unfold maxLen;omega) (by omega) (by simp;omega) ?_;intro v5 w5 hown5 hgrow5 _ hat5;obtain ⟨g5,c5,rfl⟩:=kG hown5;have HOWN:Hid _:=hown5;have HGR:Hid _:=hgrow5;have HAT:Hid _:=hat5;clear hown5 hgrow5 hat5))
    have hal:Below V5.heap.size V5 (V5.alloc (.cells c 64)):=(Below.refl _ V5).alloc (Nat.le_refl _) _
    have hsp:=HI5.out.own
    rw[HK.out] at hsp
    have hmore:=(hsp.below hal).more (b:=X3.heap.size) (c:=c) (s:=s) (by have:=HI5.out.fb.size;have:=HX3.out;omega) (fun g' hg'=>(HOW.out g' (by rw[HK.out];exact hg')).2) ((HNW.out.mono (Nat.le_refl _) hal.size).below hal) HOWN.out HGR.out HAT.out
    have hnew:ChI w w5 b T (.slice g5 (L++[s]).length c5) (L++[s]) (fun i=>if i=L.length then c else R i) p3:=by
     refine ⟨?_,?_,?_,hbl⟩
     ·rw[List.length_append]
      show SpO w5 w.heap.size (.slice g5 (L.length+1) c5) (L.length+1) (spD (L++[s])) _
      rw[HK.out]
      refine hmore.congr (fun j hj=>?_) (fun _ _=>rfl)
      by_cases e:j=k
      ·rw[if_pos e,e,←HK.out];exact GV L s
      ·rw[if_neg e];exact GP (by rw[HK.out];omega)
     ·exact (HGR.out.block b (by have:=HI5.out.fb.size;rw[World.size_alloc];omega) (fun e=>by have:=(HOW.out b (by rw[HK.out];exact e.symm)).1;omega)).trans (af.alloc HI5.out.rd _)
     ·exact (HI5.out.fb.trans (Fb.of hal)).grown HGR.out (fun r e=>(HOW.out r (by rw[HK.out];exact e)).1)
    have hlen:(L++[s]).length=k+1:=by rw[List.length_append,HK.out];rfl
    go_wp2
    go_roundw
    case rel=>exact ⟨L++[s],fun i=>if i=L.length then c else R i,p3,g5,c5,by rw[hlen],by rw[hlen];exact ⟨by omega,by omega⟩,by rw[Hid,HRM5.out,hlen,show 67-(k+1)=66-k by omega],hnew⟩
    case measure=>simp[slN];omega
   ·have hbn:(l2==[124])=false:=by simpa using hbar
    have HRR:Hid (RR=.error (2,p)):=by rw[Hid,HRM3.out,if_neg hbar]
    have HTH:Hid _:=cG 2 (p:Int) X3
    clear HRM3 hbar
    go_wp2_with fail
    refine Calls.mono HTH.out ?_
    rintro e V4 ⟨rfl,rfl⟩
    exact ⟨rfl,by rw[HRR.out];rfl,HI4.out.fb⟩
end
section
open Go.RowKit PK Vg
theorem Nw.Hf {B E:Nat} {P:World→Prop} {W:World} (h:Nw B E P W) {g o:Nat} (hg:g<B) (v:Value):Nw B E P (W.setCell ⟨g,o,none⟩ v):=h.keep fun b o2 x h1 _ h3=>by
 have:=heap_setCell_other W ⟨g,o,none⟩ b v (by show b≠g;omega)
 simp only[World.cell?,this] at h3 ⊢
 exact h3
theorem rH (args:Array Value) (W:World):(callFunc 18 args).run Tryz.prog W=.ok (.enter 18 args) W:=by kernel_rfl
theorem JH {w:World} (hn:iE w) (he:fu w):gv<w.heap.size∧1<w.heap.size:=by
 obtain ⟨ev,h1,_⟩:=he
 have a:=aA (hn.kn 0 _ rfl)
 have b:=aA (hn.tb 0 _ rfl)
 exact ⟨aA h1,by omega⟩
theorem EK (T:ByteArray) (X:World):b8 (X.alloc (.cells #[.string T,.int .i64 0] 57)) X.heap.size T 0:=af.new X _ _
set_option maxRecDepth 100000 in
set_option maxHeartbeats 4000000 in
theorem AH (q:Nat) (T:ByteArray) (X:World) (hq:af X q 9 #[.string T]) (hn:iE X) (he:fu X):Calls Tryz.prog 18 #[.pointer (some ⟨q,0,none⟩)] X fun e w'=>Told (wj T.data.toList) e (fun L _ v=>Nw X.heap.size w'.heap.size (fun W=>kL W v L.length (spD L)) w')∧Below X.heap.size X w':=by
 have htl:=Pl.aK T
 have c0:=af.cell hq (i:=0) rfl
 unfold wj
 by_cases hbig:65536<T.data.toList.length
 ·rw[if_pos hbig]
  have HTH:Hid _:=cG 4 0 X
  have hb:(65536:Int)<(T.size:Int):=by omega
  clear hq hn he htl hbig
  go_enter Tryz.func18,Tryz.ntmps18
  go_wp2_with fail
  refine Calls.mono HTH.out ?_
  rintro e V ⟨rfl,rfl⟩
  exact ⟨rfl,rfl,Below.refl _ _⟩
 ·rw[if_neg hbig]
  have hgl:=JH hn he
  have hal:Below X.heap.size X (X.alloc (.cells #[.string T,.int .i64 0] 57)):=(Below.refl _ X).alloc (Nat.le_refl _) _
  have hb:¬(65536:Int)<(T.size:Int):=by omega
  have HCH:Hid _:=td X.heap.size T _ (EK T X) (by omega) (hn.below hal) (he.below hal) hgl
  have HAL:Hid (Below X.heap.size X (X.alloc (.cells #[.string T,.int .i64 0] 57))):=hal
  clear hal hq hn he htl hbig hgl
  go_enter Tryz.func18,Tryz.ntmps18
  go_wp2_with fail
  refine Calls.mono HCH.out ?_
  rintro e V ⟨ht,hf⟩
  have HB:Hid (Below X.heap.size X V):=Fb.old HAL.out hf (Nat.le_refl _)
  rcases hRR:(bU (fD T.data.toList 0 0) fun s q=>j0 T.data.toList 66 [s] q) with ⟨E,A⟩ | ⟨L,p⟩
  ·rw[hRR] at ht
   obtain rfl:e=.panicked [flt E A]:=ht
   exact ⟨rfl,by rw[hRR];rfl,HB.out⟩
  ·rw[hRR] at ht
   obtain ⟨v,rfl,hnw⟩:=ht
   obtain ⟨a,cap,R,rfl,-⟩:=hnw.here
   have HNW:Hid (Nw X.heap.size V.heap.size (fun W=>kL W (.slice a L.length cap) L.length (spD L)) V):=hnw.mono (by rw[World.size_alloc];omega) (Nat.le_refl _)
   have HRR:Hid _:=hRR
   clear hnw hf HCH HAL hRR
   go_wp2
   go_ret
   exact ⟨by rw[HRR.out];exact ⟨_,rfl,HNW.out⟩,HB.out⟩
def Rdd (r:Rz (List Sp)) (e:Ending) (w':World):Prop:=match r with
 | .ok (L,_)=>∃v,e=.returned (.tuple #[v,jU 0 0])∧kL w' v L.length (spD L)
 | .error (E,A)=>e=.returned (.tuple #[.slice none 0 0,jU E A])
set_option maxRecDepth 100000 in
set_option maxHeartbeats 4000000 in
theorem y4 (T:ByteArray) (w:World) (hn:iE w) (he:fu w):Calls Tryz.prog 7 #[.string T] w fun e w'=>Rdd (wj T.data.toList) e w'∧Below w.heap.size w w':=by
 obtain ⟨W1,hW1⟩:∃W1,W1=(w.alloc (.cells #[.string T] 9)).alloc (.cells #[.int .i64 0,.int .i64 0] 37):=⟨_,rfl⟩
 have hsz:W1.heap.size=w.heap.size+2:=by rw[hW1];simp
 have h1:Below w.heap.size w W1:=by rw[hW1];exact ((Below.refl _ w).alloc (Nat.le_refl _) _).alloc (by simp) _
 have hbx:af W1 w.heap.size 9 #[.string T]:=by rw[hW1];exact (af.new w _ _).alloc _
 have h5:af W1 (w.heap.size+1) 37 #[.int .i64 0,.int .i64 0]:=by
  rw[hW1]
  have:=af.new (w.alloc (.cells #[.string T] 9)) 37 #[.int .i64 0,.int .i64 0]
  simpa using this
 have hF:Below W1.heap.size W1 (ig W1):=(Below.refl _ W1).alloc (Nat.le_refl _) _
 have hF2:Below w.heap.size w (ig W1):=h1.trans (hF.mono h1.size)
 have hFs:(ig W1).heap.size=W1.heap.size+1:=by simp[ig]
 have HR:=AH w.heap.size T (ig W1) (af.below hbx hF (af.lt hbx)) (hn.below hF2) (he.below hF2)
 have hbxF:af (ig W1) W1.heap.size 37 #[.int .i64 0,.int .i64 0]:=af.new W1 _ _
 have HB1:Hid (Below w.heap.size w W1):=h1
 have hmf:=mkf
 rcases hRR:wj T.data.toList with ⟨E,A⟩ | ⟨L,p⟩
 ·rw[hRR] at HR
  have HED:Hid (Calls Tryz.prog 17 #[.func (.func 18) #[] #[.pointer (some ⟨w.heap.size,0,none⟩)]] W1 fun e w'=>e=.returned (.tuple #[.slice none 0 0,jU E A])∧Below W1.heap.size W1 w'):=by
   refine Calls.mono (Bw 18 _ rH W1 W1.heap.size (Nat.le_refl _) E A (fun _=>True) (Calls.mono HR ?_)) ?_
   ·rintro e w' ⟨rfl,hb⟩
    exact ⟨rfl,trivial,af.below hbxF hb (af.lt hbxF),hb.mono (by omega)⟩
   ·rintro e w' ⟨rfl,_,hb⟩
    exact ⟨rfl,hb⟩
  have H5:Hid _:=h5
  clear HR h1 hbx h5 hF hF2 hbxF hn he hRR
  go_enter Tryz.func7,Tryz.ntmps7
  go_upto_region 1 with fail
  rw[←hW1]
  clear hW1
  go_wp2_with fail
  refine Calls.mono HED.out ?_
  rintro e V ⟨rfl,hb⟩
  have hr:=af.below H5.out hb (af.lt H5.out)
  have c0:=hr.cell (i:=0) rfl
  have c1:=hr.cell (i:=1) rfl
  have f0:=hr.frozen 0
  have f1:=hr.frozen 1
  have HR2:Hid (af ((V.setCell ⟨w.heap.size+1,0,none⟩ (.int .i64 E)).setCell ⟨w.heap.size+1,1,none⟩ (.int .i64 A)) (w.heap.size+1) 37 #[.int .i64 E,.int .i64 A]):=(hr.set 0 _).set 1 _
  have HB2:Hid (Below w.heap.size w ((V.setCell ⟨w.heap.size+1,0,none⟩ (.int .i64 E)).setCell ⟨w.heap.size+1,1,none⟩ (.int .i64 A))):=((HB1.out.trans (hb.mono (by omega))).setCell (p:=⟨w.heap.size+1,0,none⟩) (by show _≤_+1;omega) _).setCell (p:=⟨w.heap.size+1,1,none⟩) (by show _≤_+1;omega) _
  clear hr hb hsz hFs
  unfold jU
  go_wp2
  exact ⟨rfl,_,cC rfl _ _ (w.heap.size+1) 37 #[.int .i64 E,.int .i64 A] (0,0) _ _ rfl rfl HR2.out Tryz.underlying37 rfl ni,by show _=Ending.returned (.tuple #[.slice none 0 0,jU E A]);rfl,HB2.out⟩
 ·rw[hRR] at HR
  have HED:Hid (Calls Tryz.prog 17 #[.func (.func 18) #[] #[.pointer (some ⟨w.heap.size,0,none⟩)]] W1 fun e w'=>∃a cap,e=.returned (.tuple #[.slice a L.length cap,jU 0 0])∧Nw (W1.heap.size+1) w'.heap.size (fun W=>kL W (.slice a L.length cap) L.length (spD L)) w'∧Below W1.heap.size W1 w'):=by
   refine Calls.mono (D8 18 _ rH W1 W1.heap.size (Nat.le_refl _) (fun v w'=>Nw (W1.heap.size+1) w'.heap.size (fun W=>kL W v L.length (spD L)) w') (Calls.mono HR ?_)) ?_
   ·rintro e w' ⟨⟨v,rfl,hnw⟩,hb⟩
    refine ⟨v,rfl,?_,hnw.mono (by omega) (Nat.le_refl _),af.below hbxF hb (af.lt hbxF),hb.mono (by omega)⟩
    obtain ⟨a,cap,R,rfl,-⟩:=hnw.here
    rfl
   ·rintro e w' ⟨v,rfl,⟨w1,hnw,rfl⟩,hb⟩
    obtain ⟨a,cap,R,rfl,-⟩:=hnw.here
    refine ⟨a,cap,rfl,?_,hb⟩
    rw[World.size_setCell,World.size_setCell]
    exact (hnw.Hf (by omega) _).Hf (by omega) _
  have H5:Hid _:=h5
  clear HR h1 hbx h5 hF hF2 hbxF hn he hRR
  go_enter Tryz.func7,Tryz.ntmps7
  go_upto_region 1 with fail
  rw[←hW1]
  clear hW1
  go_wp2_with fail
  refine Calls.mono HED.out ?_
  rintro e V ⟨a,cap,rfl,hnw,hb⟩
  have hr:=af.below H5.out hb (af.lt H5.out)
  have c0:=hr.cell (i:=0) rfl
  have c1:=hr.cell (i:=1) rfl
  have f0:=hr.frozen 0
  have f1:=hr.frozen 1
  have HR2:Hid (af ((V.setCell ⟨w.heap.size+1,0,none⟩ (.int .i64 0)).setCell ⟨w.heap.size+1,1,none⟩ (.int .i64 0)) (w.heap.size+1) 37 #[.int .i64 0,.int .i64 0]):=(hr.set 0 _).set 1 _
  have HB2:Hid (Below w.heap.size w ((V.setCell ⟨w.heap.size+1,0,none⟩ (.int .i64 0)).setCell ⟨w.heap.size+1,1,none⟩ (.int .i64 0))):=((HB1.out.trans (hb.mono (by omega))).setCell (p:=⟨w.heap.size+1,0,none⟩) (by show _≤_+1;omega) _).setCell (p:=⟨w.heap.size+1,1,none⟩) (by show _≤_+1;omega) _
  have HCA:Hid (kL ((V.setCell ⟨w.heap.size+1,0,none⟩ (.int .i64 0)).setCell ⟨w.heap.size+1,1,none⟩ (.int .i64 0)) (.slice a L.length cap) L.length (spD L)):=((hnw.Hf (by omega) _).Hf (by omega) _).here
  clear hr hb hnw hsz hFs
  unfold jU
  go_wp2
  exact ⟨rfl,_,cC rfl _ _ (w.heap.size+1) 37 #[.int .i64 0,.int .i64 0] (0,0) _ _ rfl rfl HR2.out Tryz.underlying37 rfl ni,⟨.slice a L.length cap,rfl,HCA.out⟩,HB2.out⟩
end
section
open Go.RowKit PK Vg
def spM (x:Nat):Sp:={ sp0 1 0 with n:=(x:Int) }
def spR:Sp:={ sp0 6 0 with g:=uM [73] [66] [65] [65] (Pm.up fun i=>i) }
set_option maxRecDepth 100000 in
theorem xE:wj [114,111,116,111,114,32,73,32,66,32,65,32,65,32,124,32,109,111,118,101,32,48]=.ok ([spR,spM 0],23):=by kernel_rfl
set_option maxRecDepth 100000 in
theorem IY:stE spR=0:=by kernel_rfl
end
end Go.Proofs.YtgacaecjinlhiaaGreatDoor
