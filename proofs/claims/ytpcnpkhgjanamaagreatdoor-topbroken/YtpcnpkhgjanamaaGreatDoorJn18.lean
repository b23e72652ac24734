import Derived.Test.YtpcnpkhgjanamaaGreatDoorPz
import Derived.Shelf.Strconv.AtoiAll
import Derived.Test.YtpcnpkhgjanamaaGreatDoorJn17
namespace Go.Proofs.YtpcnpkhgjanamaaGreatDoor
open Go.Proofs.Tryz renaming prog→qf,underlying35→WH,underlying139→ZY
open Go renaming Value→R2,World→V8,Calls→WA
open Go.RowKit renaming Below→Wh
open _root_.ByteArray renaming empty→Zj
set_option maxRecDepth 100000
set_option maxHeartbeats 4000000
section
open Go.RowKit PK Vg
theorem jZ.grown{w W W':V8}{a b c:R2}{rf pl:Nat→Int}(h:jZ w W a b c rf pl){r:Option Nat}(hg:W.grownBy W' r)(hr:∀k,r=some k→w.heap.size+1<k):jZ w W' a b c rf pl:=by
 have h1:=h.mg.row.lt;have h2:=h.res.lt;have d:∀k,k≤w.heap.size+1→some k≠r:=fun k hk e=>by have:=hr k e.symm;omega
 refine⟨⟨(hg.block _ h1 (d _ vom)).trans h.mg.row,?_⟩,(hg.block _ h2 (d _ vom)).trans h.res⟩;exact h.mg.below.grown hg vom (fun k hk=>by have:=hr k hk;omega)
theorem Rn(a b c:R2)(rf pl:Nat→Int)(t:ByteArray)(E:Int)(hE:(E != 0)=true)(w:V8)(HW:Hid (∀W,Wh w.heap.size w W→WA qf 60 #[.agg (aP a b c rf pl)] W fun e w'=>e=.returned (.tuple #[.pointer none,.int .i64 E])∧Wh W.heap.size W w')):WA qf 49 #[.agg (aP a b c rf pl),.string t] w fun e w'=>e=.returned (.tuple #[.string Zj,.agg #[.int .i64 E,.int .i64 0]])∧Wh w.heap.size w w':=by
 have h0:=jZ.new w a b c rf pl;go_enter Tryz.func49,Tryz.ntmps49
 go_wp2_with (first|refine Wn rfl 35 _ rfl w.heap.size rfl 35 (aP a b c rf pl) (0,0) _ h0.load WH rfl (by rw[aD];exact aE) ?_)
 refine(HW.out _ h0.mg.below).mono ?_;rintro e W1 ⟨rfl,hb⟩;have h1:=h0.step hb;have c0:=h1.res.cell (i:=0) rfl;have c1:=h1.res.cell (i:=1) rfl;have f0:=h1.res.frozen 0;have f1:=h1.res.frozen 1;clear hb h0 HW;go_wp2;have q:=Kit.vJ (.int .i64 E) (.int .i64 0) c0 c1;exact WL (v:=.tuple #[.string Zj,.agg #[.int .i64 E,.int .i64 0]]) (by simp[results,Tryz.results49,go_sem,q.1,q.2];rfl) rfl ⟨rfl,h1.done _ _⟩
theorem OG(a b c:R2)(rf pl:Nat→Int)(t:ByteArray)(E A:Int)(hE:(E != 0)=true)(w:V8)(HW:Hid (∀W,Wh w.heap.size w W→WA qf 60 #[.agg (aP a b c rf pl)] W fun e w'=>∃q,e=.returned (.tuple #[.pointer (some ⟨q,0,none⟩),.int .i64 0])∧Wh W.heap.size W w'))(HT:Hid (∀W,WA qf 20 #[.string t] W fun e w'=>e=.returned (.agg #[.int .i64 E,.int .i64 A])∧Wh W.heap.size W w')):WA qf 49 #[.agg (aP a b c rf pl),.string t] w fun e w'=>e=.returned (.tuple #[.string Zj,.agg #[.int .i64 E,.int .i64 A]])∧Wh w.heap.size w w':=by
 have h0:=jZ.new w a b c rf pl;go_enter Tryz.func49,Tryz.ntmps49
 go_wp2_with (first|refine Wn rfl 35 _ rfl w.heap.size rfl 35 (aP a b c rf pl) (0,0) _ h0.load WH rfl (by rw[aD];exact aE) ?_)
 refine(HW.out _ h0.mg.below).mono ?_;rintro e W1 ⟨q,rfl,hb⟩;have h1:=h0.step hb;clear hb h0 HW
 go_wp2_with fail
 refine(HT.out _).mono ?_;rintro e W2 ⟨rfl,hb⟩;have h2:=(h1.step hb).alloc (.cells #[.int .i64 E,.int .i64 A] 26);have c0:=h2.res.cell (i:=0) rfl;have c1:=h2.res.cell (i:=1) rfl;have f0:=h2.res.frozen 0;have f1:=h2.res.frozen 1;clear hb h1 HT
 go_wp2_with fail
 go_region
 all_goals(try go_wp2)
 have q:=Kit.vJ (.int .i64 E) (.int .i64 A) c0 c1;exact WL (v:=.tuple #[.string Zj,.agg #[.int .i64 E,.int .i64 A]]) (by simp[results,Tryz.results49,go_sem,q.1,q.2];rfl) rfl ⟨rfl,(h2.done _ _).drew⟩
structure zS(w W:V8)(a b c:R2)(rf pl:Nat→Int)(q:Nat)(M:Om.Ma)(at':Nat→Nat)(B:Nat)(v9:R2)(l:List UInt8):Prop where
 wt:jZ w W a b c rf pl
 pQ:bP W q M at'
 q1:w.heap.size+1<q
 q2:q<B
 own:Kit.Jv W B 5 v9 l
 sz:B≤W.heap.size
section
variable{w W W':V8}{a b c:R2}{rf pl:Nat→Int}{q:Nat}{M:Om.Ma}{at' at2:Nat→Nat}{B:Nat}{v9:R2}{l:List UInt8}
theorem zS.step(h:zS w W a b c rf pl q M at' B v9 l)(hb:Wh W.heap.size W W'):zS w W' a b c rf pl q M at' B v9 l:=⟨h.wt.step hb,h.pQ.below hb,h.q1,h.q2,LS h.own hb,Ws h.sz hb.size⟩
theorem zS.QD(h:zS w W a b c rf pl q M at' B v9 l)(hr:bP W' q M at2)(hg:W.grownBy W' (some q)):zS w W' a b c rf pl q M at2 B v9 l:=by
 refine⟨h.wt.grown hg (fun k hk=>by cases hk;exact h.q1),hr,h.q1,h.q2,World.ownsRow.kept h.own hg ?_,Ws h.sz hg.size⟩;cases hv:v9.ownBlock with
 |none=>exact .inl rfl
 |some k=>
  refine .inr (fun e=>?_);have h1:=(World.ownsRow.lt h.own k hv).1;have h2:=h.q2;cases e;omega
end
theorem S2(M:Om.Ma)(hM:Om.Ok M)(a b c:R2)(rf pl:Nat→Int)(t:ByteArray)(ht:Ls t.data.toList)(hs:t.size≤65536)(w:V8)(HW:Hid (∀W,Wh w.heap.size w W→WA qf 60 #[.agg (aP a b c rf pl)] W fun e w'=>∃q,e=.returned (.tuple #[.pointer (some ⟨q,0,none⟩),.int .i64 0])∧W.heap.size≤q∧bP w' q M M.st∧Wh W.heap.size W w'))(HT:Hid (∀W,WA qf 20 #[.string t] W fun e w'=>e=.returned (.agg #[.int .i64 0,.int .i64 0])∧Wh W.heap.size W w')):WA qf 49 #[.agg (aP a b c rf pl),.string t] w fun e w'=>e=.returned (.tuple #[.string ⟨(Om.wr M M.st t.data.toList).toArray⟩,.agg #[.int .i64 0,.int .i64 0]])∧Wh w.heap.size w w':=by
 obtain⟨i0,D,L,F,I⟩:=ig AO;have S:Hid (∀k c,c<26→Om.now M (Om.steps M M.st k) c<26):=fun k c hc=>(Om.eM hM _).lt c hc;have h0:=jZ.new w a b c rf pl;clear hM;go_enter Tryz.func49,Tryz.ntmps49
 go_wp2_with (first|refine Wn rfl 35 _ rfl w.heap.size rfl 35 (aP a b c rf pl) (0,0) _ h0.load WH rfl (by rw[aD];exact aE) ?_)
 refine(HW.out _ h0.mg.below).mono ?_;rintro e W1 ⟨q,rfl,hq,l,hb⟩;have h1:=h0.step hb;have A:w.heap.size+1<q:=by have:=h0.res.lt;omega
 clear hb h0 HW hq
 go_wp2_with fail
 refine(HT.out _).mono ?_;rintro e W2 ⟨rfl,hb⟩;have h2:=(h1.step hb).alloc (.cells #[.int .i64 0,.int .i64 0] 26);have f:=(l.below hb).alloc (.cells #[.int .i64 0,.int .i64 0] 26);clear hb h1 HT l;obtain⟨V,hV⟩:∃V,V=W2.alloc (.cells #[.int .i64 0,.int .i64 0] 26):=⟨_,rfl⟩
 rw[←hV]at h2 f;have E:=f.row.lt
 go_wp2_with (first|(at_make;rw[←hV];refine wpList_make_own _ rfl _ _ 139 rfl V.heap.size 5 i0 (.int .u8 0) 1 ZY D L F _ _ _ t.size rfl rfl rfl (by rw[I];omega) (by unfold maxLen;omega) (R3 _) ?_;intro w1 hown1 hgrow1))
 have n:Wh V.heap.size V w1:=⟨hgrow1.os,hgrow1.tape,hgrow1.output,hgrow1.size,fun k hk=>hgrow1.block k hk vsi⟩
 have m:zS w w1 a b c rf pl q M (Om.steps M M.st 0) V.heap.size _ (Om.wr M M.st (t.data.toList.take 0)):=⟨h2.step n,f.below n,A,E,hown1,hgrow1.size⟩
 have hB:V.heap.size=W2.heap.size+1:=by rw[hV];simp
 rw[hB]at m;clear hB n hown1 hgrow1 E f h2 A hV;go_loopw [31,9] (fun i y W=>∃(k:Nat) (v9:R2),k≤t.size∧i=.int .i64 (k:Nat)∧v9=y∧zS w W a b c rf pl q M (Om.steps M M.st k) (W2.heap.size+1) v9 (Om.wr M M.st (t.data.toList.take k))) (fun i _ _=>((t.size:Int)-intOf i).toNat)
 case atStart=>exact⟨0,_,vom,rfl,rfl,m⟩
 case round=>
  clear m;obtain⟨k,v9,hk,rfl,rfl,hg⟩:=hrel;by_cases hlt:k<t.size
  ·have Y:(k:Int)<(t.size:Int):=vom
   have G:=ht.at (mW hlt);have j:=oJ G;have T:t[k]=t.data.toList.getD k 0:=(fI t k hlt).symm;have K:Hid _:=OJ (M:=M) (mW hlt) M.st;have B:Hid _:=S.out (k+1) _ j;have C:Hid (Om.step M (Om.steps M M.st k)=Om.steps M M.st (k+1)):=rfl;have s:Hid ((Om.wr M M.st (t.data.toList.take k)).length≤k):=by rw[Hid,Om.gh,List.length_take];omega
   generalize t.data.toList.getD k 0=x at *
   go_wp2_with fail
   refine(vV q M _ _ hg.pQ).mono ?_;rintro e W3 ⟨rfl,hr,H⟩;rw[C.out]at hr;have o:=hg.QD hr H;clear hr H hg
   go_wp2_with fail
   refine(oq x G _).mono ?_;rintro e W4 ⟨rfl,rfl⟩;clear T
   go_wp2_with fail
   refine(sE q M _ (Vg.num x) j _ o.pQ).mono ?_;rintro e W4 ⟨rfl,hb⟩;have d:=o.step hb;clear hb o;obtain⟨z,hz⟩:∃z,z=Om.now M (Om.steps M M.st (k+1)) (Vg.num x):=⟨_,rfl⟩
   rw[←hz]at B K⊢;clear hz
   go_wp2_with fail
   refine(Em z B.out _).mono ?_;rintro e W5 ⟨rfl,rfl⟩;have Z:=d.pQ.row.lt;have O:=d.q2;have e3:=d.sz
   go_wp2_with (first|(at_builtin;refine wpList_append_own _ rfl _ _ 139 rfl (W2.heap.size+1) 5 i0 (.int .u8 0) 1 1 ZY D L F I rfl vde _ _ _ rfl (World.ownsRow.alloc d.own _) ⟨W4.heap.size,0,none⟩ 1 1 [.int .u8 ((oB z).toNat:Int)] rfl rfl (cell_one_new _ _ _) (fun u hu=>by simp at hu;subst hu;rfl) (by have:=s.out;unfold maxLen;omega) (by have:=s.out;omega) vso ?_;intro v5 w5 hown5 hgrow5 _))
   have U:zS w w5 a b c rf pl q M (Om.steps M M.st (k+1)) (W2.heap.size+1) v5 (Om.wr M M.st (t.data.toList.take (k+1))):=by
    have J:∀k,v9.ownBlock=some k→W2.heap.size+1≤k:=fun k hk=>(World.ownsRow.lt d.own k hk).1;have hq:=d.q1;have N:=d.wt.alloc (.cells #[.int .u8 ((oB z).toNat:Int)] 5);have h:=d.pQ.alloc (.cells #[.int .u8 ((oB z).toNat:Int)] 5);refine⟨N.grown hgrow5 (fun k hk=>by have:=J k hk;omega),⟨(hgrow5.block q h.row.lt (fun e=>by have:=J q e.symm;omega)).trans h.row,h.ok,h.ins⟩,hq,O,?_,by have:=hgrow5.size;simp at this;omega⟩;rw[K.out];unfold Kit.Jv;rw[←zx,WM];exact hown5
   clear d hown5 hgrow5;go_roundw
   case rel=>exact⟨k+1,v5,vom,by go_num,rfl,U⟩
   case measure=>simp[intOf];omega
  ·obtain rfl:k=t.size:=vom
   have b9:¬(t.size:Int)<(t.size:Int):=vom;have g:=hg.own;rw[Pl.aN,List.take_length]at g;have e4:=Kit.qp (P:=qf) wr 139 9 5 ZY Tryz.underlying5 Tryz.underlying9 g;have c0:=hg.wt.res.cell (i:=0) rfl;have c1:=hg.wt.res.cell (i:=1) rfl;have f0:=hg.wt.res.frozen 0;have f1:=hg.wt.res.frozen 1;have Q:=hg.wt;clear g hg;go_wp2;have q:=Kit.vJ (.int .i64 0) (.int .i64 0) c0 c1;exact WL (v:=.tuple #[.string ⟨(Om.wr M M.st t.data.toList).toArray⟩,.agg #[.int .i64 0,.int .i64 0]]) (by simp[results,Tryz.results49,go_sem,q.1,q.2]) rfl ⟨rfl,Q.done _ _⟩
theorem D9(vm:R2)(g:Gm)(t:ByteArray)(w:V8)(hm:cL w vm g):WA qf 49 #[vm,.string t] w fun e w'=>e=.returned (.tuple #[.string ⟨(Jm g t.data.toList).toArray⟩,.agg #[.int .i64 (Ck g t.data.toList),.int .i64 (Gn g t.data.toList)]])∧Wh w.heap.size w w':=by
 have HN:=fun W (hb:Wh w.heap.size w W)=>yP vm g W (hm.below hb);unfold Jm;by_cases hg:gE g=0
 ·have HG:∀W,Wh w.heap.size w W→WA qf 60 #[vm] W fun e w'=>∃q,e=.returned (.tuple #[.pointer (some ⟨q,0,none⟩),.int .i64 0])∧W.heap.size≤q∧bP w' q (bZ g) (bZ g).st∧Wh W.heap.size W w':=fun W hb=>(HN W hb).mono (by
   rintro e w' (⟨h1,_⟩|⟨_,h2⟩)
   ·exact absurd hg h1
   ·exact h2)
  have e:Ck g t.data.toList=gx t.data.toList:=by unfold Ck;rw[V9 (fun h=>h hg)]
  have e':Gn g t.data.toList=nK t.data.toList:=by unfold Gn;rw[V9 (fun h=>h hg)]
  rcases lW t.data.toList with⟨e1,e2,e3,e4⟩|e1
  ·obtain⟨hM,_⟩:=fq hg
   obtain⟨a,b,c,rfl,_⟩:=hm;rw[e,e',e1,e2,V9 vde];exact S2 _ hM a b c g.rf g.pl t (Jz e4) (by rw[Pl.aN];exact e3) w HG (fun W=>by have:=fJ t W;rw[e1,e2]at this;exact this)
  ·obtain⟨a,b,c,rfl,_⟩:=hm
   rw[e,e',Wc (by simpa using e1)];exact OG a b c g.rf g.pl t _ _ e1 w (fun W hb=>(HG W hb).mono (by rintro e w' ⟨q,h1,_,_,h2⟩;exact⟨q,h1,h2⟩)) (fun W=>fJ t W)
 ·have e:Ck g t.data.toList=gE g:=by unfold Ck;rw[Wc hg]
  have e':Gn g t.data.toList=0:=by unfold Gn;rw[Wc hg]
  obtain⟨a,b,c,rfl,_⟩:=hm;rw[e,e',Wc hg]
  exact Rn a b c g.rf g.pl t _ (by simpa using hg) w (fun W hb=>(HN W hb).mono (by
   rintro e w' (⟨_,h2⟩|⟨h1,_⟩)
   ·exact h2
   ·exact absurd h1 hg))
end
section
open Go.RowKit PK Vg Sm
noncomputable def one(s:Sp)(t:List UInt8):List UInt8:=
 if s.k=1 then Jo s.n.toNat t else if s.k=2 then Sw s.n.toNat s.key.data.toList t else if s.k=3 then Uh t.length (TS s t.length) t
 else if s.k=4 then Uh t.length (TS s t.length) t else if s.k=5 then Vd s.r s.Z t t.length else Om.wr (bZ s.g) (bZ s.g).st t
def Mm(s:Sp)(n:Nat):Int:=if s.k=5∧n % s.r≠0 then 8 else 0
section
variable{s:Sp}{t:List UInt8}
theorem Km(k:s.k=1):one s t=Jo s.n.toNat t:=by unfold one;rw[Wc k]
theorem EE(k:s.k=6):one s t=Om.wr (bZ s.g) (bZ s.g).st t:=by unfold one;rw[V9 vom,V9 vom,V9 vom,V9 vom,V9 vom]
theorem QO(k:s.k≠5)(n:Nat):Mm s n=0:=by unfold Mm;rw[V9 (fun h=>k h.1)]
end
theorem Oi{l:List UInt8}(h:Ls l):Pl.Lets l:=fun c hc=>by
 have:=h c hc;simp[Pl.yA];omega
theorem Pg{l:List UInt8}(h:Pl.Lets l):Ls l:=fun c hc=>by
 have:=h c hc;simp[Pl.yA]at this;omega
theorem PD{l:List UInt8}(h:Ls l)(hn:l.length≤65536):gx l=0:=by
 unfold gx;rw[V9 vom];exact(jF l (Pl.Kk l (Oi h))).1
theorem PB{l:List UInt8}(h:gx l=0):Ls l∧l.length≤65536:=⟨Pg (FG h).2.2,(FG h).2.1⟩
theorem Ql(b:Nat)(l:List UInt8):Ls (Jo b l):=fun c hc=>by
 obtain⟨x,hx,rfl⟩:=Yh.1 hc;unfold MX;rw[mI (X8 _ vom)];have:=X8 (Vg.num x+b) (show 0<26 by omega);omega
section
variable(w:V8){s:Sp}{t:List UInt8}(hs:ni s=0)(ht:gx t=0)
include w hs ht
end
theorem pP(t:ByteArray):t.data.toList.length=t.size:=(Pl.aN t).symm
end
section
open Go.Shelf Go.RowKit
shelf_lay LaysM.n316 Nm 316 at Tryz as Tryz.laysClone
theorem QZ:Tryz.laysClone_ren.f 316=50:=vkr
theorem Cy(s:ByteArray)(hs:s.size≤65536)(w:V8):WA qf 50 #[.string s] w fun e w'=>e=.returned (.string s)∧Wh w.heap.size w w':=by
 have h:=Any.stringslite_Clone Tryz.laysClone s w vom;rw[QZ]at h;exact h
theorem xE(s:ByteArray)(hs:s.size≤65536)(w:V8):WA qf 22 #[.string s] w fun e w'=>e=.returned (.string s)∧Wh w.heap.size w w':=by
 have HC:Hid _:=Cy s hs w;go_enter Tryz.func22,Tryz.ntmps22
 go_wp2_with fail
 refine We HC.out ?_;rintro e V ⟨rfl,hb⟩;go_wp2;go_ret;exact⟨rfl,hb⟩
end
section
open Go.RowKit PK Vg Sm
def Fp(f:Nat→Int):Nat→Option Nat
 |0=>none
 |m+1=>match Fp f m with
  |some i=>some i
  |none=>if f m=0 then none else some m
theorem pU{f:Nat→Int}:∀{m:Nat},Fp f m=none→∀i,i<m→f i=0
 |0,_,i,hi=>by omega
 |m+1,h,i,hi=>by
  unfold Fp at h;cases hm:Fp f m with
  |some x=>rw[hm]at h;cases h
  |none=>
   rw[hm]at h;by_cases e:f m=0
   ·by_cases hi2:i=m
    ·rw[hi2];exact e
    ·exact pU hm i vom
   ·simp only[V9 e]at h;cases h
theorem tL{f:Nat→Int}:∀{m:Nat},(∀i,i<m→f i=0)→Fp f m=none
 |0,_=>rfl
 |m+1,h=>by unfold Fp;rw[tL (fun i hi=>h i vom)];simp only[Wc (h m vom)]
theorem vG{f:Nat→Int}:∀{m i:Nat},Fp f m=some i→i<m∧f i≠0∧∀j,j<i→f j=0
 |0,i,h=>by cases h
 |m+1,i,h=>by
  unfold Fp at h;cases hm:Fp f m with
  |some x=>rw[hm]at h;cases h;obtain⟨h1,h2⟩:=vG hm;exact⟨vom,h2⟩
  |none=>
   rw[hm]at h;by_cases e:f m=0
   ·simp only[Wc e]at h;cases h
   ·simp only[V9 e]at h;cases h;exact⟨vom,e,fun j hj=>pU hm j hj⟩
theorem Ru{f:Nat→Int}{m i:Nat}(hi:i<m)(h0:∀j,j<i→f j=0)(h:f i≠0):Fp f m=some i:=by
 cases hm:Fp f m with
 |none=>exact absurd (pU hm i hi) h
 |some j=>
  obtain⟨h1,h2,h3⟩:=vG hm;by_cases hj:j<i
  ·exact absurd (h0 j hj) h2
  ·by_cases hji:i<j
   ·exact absurd (h3 i hji) h
   ·rw[show j=i by omega]
def oU(f:Nat→Int)(m:Nat):Int:=((Fp f m).map f).getD 0
def IP(f:Nat→Int)(m:Nat):Nat:=(Fp f m).getD 0
theorem yB{f:Nat→Int}{m:Nat}(h:oU f m=0):∀i,i<m→f i=0:=by
 unfold oU at h;cases hm:Fp f m with
 |none=>exact pU hm
 |some i=>rw[hm]at h;exact absurd h (vG hm).2.1
theorem An{f:Nat→Int}{m:Nat}(h:∀i,i<m→f i=0):oU f m=0:=by unfold oU;rw[tL h];rfl
theorem Nb{f:Nat→Int}{m i:Nat}(hi:i<m)(h0:∀j,j<i→f j=0)(h:f i≠0):oU f m=f i∧IP f m=i:=by
 unfold oU IP;rw[Ru hi h0 h];exact⟨rfl,rfl⟩
noncomputable def runT(l:Nat→Sp)(t:List UInt8):Nat→List UInt8
 |0=>t
 |k+1=>one (l k) (runT l t k)
def rE(n:Nat)(l:Nat→Sp)(t:List UInt8):Int:=if yE n l≠0 then yE n l else if gx t≠0 then gx t else oU (fun i=>Mm (l i) t.length) n
def rA(n:Nat)(l:Nat→Sp)(t:List UInt8):Nat:=if yE n l≠0 then Pt n l else if gx t≠0 then n else IP (fun i=>Mm (l i) t.length) n
noncomputable def rS(n:Nat)(l:Nat→Sp)(t:List UInt8):List UInt8:=if rE n l t=0 then runT l t n else[]
theorem pM{n:Nat}{l:Nat→Sp}{t:List UInt8}(h:rE n l t=0):yE n l=0∧gx t=0∧∀i,i<n→Mm (l i) t.length=0:=by
 unfold rE at h;by_cases h1:yE n l≠0
 ·rw[Wc h1]at h;exact absurd h h1
 ·rw[V9 h1]at h
  by_cases h2:gx t≠0
  ·rw[Wc h2]at h;exact absurd h h2
  ·rw[V9 h2]at h;exact⟨by simpa using h1,by simpa using h2,yB h⟩
structure j8(W:V8)(bl bt:Nat)(v:R2)(t:ByteArray):Prop where
 row:af W bl 23 #[v]
 Cn:af W bt 9 #[.string t]
 ne:bl≠bt
section
variable{W V:V8}{bl bt:Nat}{v:R2}{t:ByteArray}
theorem j8.cl(h:j8 W bl bt v t):W.cell? ⟨bl,0,none⟩=some v:=h.row.cell rfl
theorem j8.ct(h:j8 W bl bt v t):W.cell? ⟨bt,0,none⟩=some (.string t):=h.Cn.cell rfl
theorem j8.ft(h:j8 W bl bt v t):W.frozen? ⟨bt,0,none⟩=false:=h.Cn.frozen 0
theorem j8.below(h:j8 W bl bt v t)(hb:Wh W.heap.size W V):j8 V bl bt v t:=⟨h.row.below hb h.row.lt,h.Cn.below hb h.Cn.lt,h.ne⟩
theorem j8.set(h:j8 W bl bt v t)(t2:ByteArray):j8 (W.setCell ⟨bt,0,none⟩ (.string t2)) bl bt v t2:=⟨h.row.setOther _ _ h.ne,h.Cn.set 0 _,h.ne⟩
end
section
variable{P:Program}{md:Region.Mode}{ops:Array Oper}{Q:Exit→Act→V8→Prop}{S:V8→Prop}
theorem Vk(i d:Nat)(v:R2){oi:Oper}{fuel:Nat}{listed:Array Bool}{tm:Array R2}{df:List Deferred}{w:V8}(hi:ops[i]?=some oi)(hd:oi.dst=some d)
  (hs:Region.noSelect ops=true) (hf:Region.free md ops listed i=true) (hr:(Region.ready md ops listed).contains i=true)
  (hQ:∀c a w,Q (.panic c) (a.put (some d) v) w→Q (.panic c) a w) (hw:Region.wanted oi (yielded ops tm)=true) (hrun:∀W,S W→(execOp (Act.eval ⟨tm,df⟩) oi).run P W=.ok (.value v) W) (hS:S w)
  (h:wpAnyH P md ops Q S fuel (listed.setIfInBounds i true) ⟨tm.setIfInBounds d v,df⟩ w):wpAnyH P md ops Q S (fuel+1) listed ⟨tm,df⟩ w:=by
 refine wpAnyH_take (i:=i) (oi:=oi) (v:=v) hi hs hf hr (by rw[hd];exact hQ) (Or.inl ⟨hw,fun W hW=>hrun W hW⟩) hS ?_;rw[hd];exact h
end
theorem yQ(x y:Int)(w:V8):(Instr.field 26 (.agg #[.int .i64 x,.int .i64 y]) 0).run qf w=.ok (.int .i64 x) w:=vkr
structure Lv(w0 w:V8)(bt:Nat)(W:V8):Prop where
 old:Wh w0.heap.size w0 W
 rest:∀b,b≠bt→b<w.heap.size→W.heap[b]?=w.heap[b]?
 size:w.heap.size≤W.heap.size
theorem Lv.refl{w0 w:V8}{bt:Nat}(h:Wh w0.heap.size w0 w):Lv w0 w bt w:=⟨h,fun _ _ _=>rfl,R3 _⟩
theorem Lv.step{w0 w W V:V8}{bt:Nat}(h:Lv w0 w bt W)(hb:Wh W.heap.size W V):Lv w0 w bt V:=
 ⟨h.old.trans (hb.mono h.old.size),fun b h1 h2=>(hb.block b (by have:=h.size;omega)).trans (h.rest b h1 h2),by have:=h.size;have:=hb.size;omega⟩
theorem Lv.set{w0 w W:V8}{bt:Nat}(h:Lv w0 w bt W)(hbt:w0.heap.size≤bt)(x:R2):Lv w0 w bt (W.setCell ⟨bt,0,none⟩ x):=
 ⟨h.old.setCell (p:=⟨bt,0,none⟩) hbt x,fun b h1 h2=>(WT W ⟨bt,0,none⟩ b x h1).trans (h.rest b h1 h2),by have:=h.size;simpa using this⟩
theorem B6(args:Array R2)(W:V8):(callFunc 17 args).run qf W=.ok (.enter 17 args) W:=vkr
end
section
open Go.Shelf Go.RowKit PK Vg
def dQ:Nat→List UInt8→Nat
 |acc,[]=>acc
 |acc,c :: r=>dQ (acc*10+(c.toNat-48)) r
def D4(c:UInt8):Bool:=decide (48≤c.toNat∧c.toNat≤57)
def isNum(l:List UInt8):Bool:=l.all D4&&(l.head? != some 48||l==[48])
theorem Fx:∀(l:List UInt8) (acc:Nat),acc≤dQ acc l
 |[],acc=>R3 _
 |c :: r,acc=>by unfold dQ;exact Ws vom (Fx r _)
theorem xB:∀(l:List UInt8) (acc:Nat),acc<18446744073709551616→l.all D4=true→Lib.parseUint10 acc l=if dQ acc l<18446744073709551616 then .ok (dQ acc l)else .range
 |[],acc,h,_=>by unfold Lib.parseUint10 dQ;rw[Wc h]
 |c :: r,acc,h,hd=>by
  rw[XT,Wy]at hd;have hc:48≤c.toNat∧c.toNat≤57:=by simpa[D4]using hd.1
  unfold Lib.parseUint10 dQ;rw[Wc hc];have a:=Fx r (acc*10+(c.toNat-48));by_cases h1:1844674407370955162≤acc
  ·rw[Wc h1,V9 vom]
  ·rw[V9 h1]
   by_cases h2:18446744073709551616≤acc*10+(c.toNat-48)
   ·rw[Wc h2,V9 vom]
   ·rw[V9 h2]
    exact xB r _ vom hd.2
theorem BO{l:List UInt8}(h0:l≠[])(hd:l.all D4=true):Lib.atoiAll l=if dQ 0 l<9223372036854775808 then .ok ((dQ 0 l:Nat):Int)else .range:=by
 cases l with
 |nil=>exact absurd rfl h0
 |cons c r=>
  have a:=hd;rw[XT,Wy]at a;have hc:48≤c.toNat∧c.toNat≤57:=by simpa[D4]using a.1
  unfold Lib.atoiAll;simp only;rw[V9 vom];unfold Lib.parseMag;rw[V9 h0,xB (c :: r) 0 vom hd];have hn:¬c.toNat=45:=vom;by_cases h1:dQ 0 (c :: r)<9223372036854775808
  ·rw[Wc vom,Wc h1]
   simp only;rw[V9 vom,V9 (fun h=>hn h.1),V9 hn]
  ·rw[V9 h1]
   by_cases h2:dQ 0 (c :: r)<18446744073709551616
   ·rw[Wc h2]
    simp only;rw[Wc ⟨hn,vom⟩]
   ·rw[V9 h2]
def lX(l:List UInt8)(lo hi:Int):Int:=if isNum l=false then 2 else FT (dQ 0 l:Nat) lo hi
shelf_lay LaysC.n172 Nm 172 at Tryz as Tryz.laysAtoi
theorem Qd:Tryz.laysAtoi_ren.f 172=109:=vkr
def jo:Nat:=Tryz.laysAtoi_ren.g 16
def ia(w:V8):Prop:=∃ev,w.cell? ⟨jo,0,none⟩=some ev∧(ev=.nilIface∨∃te pe,ev=.iface te pe)
theorem ia.below{w w':V8}(h:ia w)(hb:Wh w.heap.size w w'):ia w':=by
 obtain⟨ev,h1,h2⟩:=h;exact⟨ev,(hb.cell (p:=⟨jo,0,none⟩) (ZH _ _ h1)).trans h1,h2⟩
theorem Ka(s:ByteArray)(hs:s.size≤65536)(w:V8)(he:ia w)(h0:s.data.toList≠[])(hd:s.data.toList.all D4=true):
  WA qf 109 #[.string s] w fun e w'=>(dQ 0 s.data.toList<9223372036854775808→e=.returned (.tuple #[.int .i64 ((dQ 0 s.data.toList:Nat):Int),.nilIface]))∧(¬dQ 0 s.data.toList<9223372036854775808→∃x te pe,e=.returned (.tuple #[.int .i64 x,.iface te pe]))∧Wh w.heap.size w w':=by
 by_cases h:dQ 0 s.data.toList<9223372036854775808
 ·have:=Any.strconv_Atoi_ok Tryz.laysAtoi s vom _ (by rw[BO h0 hd,Wc h]) w
  rw[Qd]at this;refine this.mono ?_;rintro e w' ⟨rfl,hw⟩;refine⟨fun _=>rfl,fun h2=>absurd h h2,?_⟩;rcases hw with rfl|⟨t,rfl⟩
  ·exact Below.refl _ _
  ·exact Lib.bytesWorld_below _ _ _
 ·obtain⟨ev,h1,h2⟩:=he
  have:=Any.strconv_Atoi_range Tryz.laysAtoi s vom (by rw[BO h0 hd,V9 h]) ev w h1 h2;rw[Qd]at this;refine this.mono ?_;rintro e w' ⟨N,rfl,_,_,hb⟩;exact⟨fun h2=>absurd h2 h,fun _=>⟨_,_,_,rfl⟩,hb⟩
theorem EY(s:ByteArray)(m:Nat)(h:m<s.size):∃h2:m<s.data.toList.length,s.data.toList[m]=s[m]:=⟨by rw[←Pl.aN s];exact h,rfl⟩
theorem Iv(s:ByteArray)(h0:0<s.size)(hs:s.size≤65536)(w:V8):WA qf 108 #[.string s] w fun e w'=>e=.returned (.bool (isNum s.data.toList))∧w'=w:=by
 obtain⟨R,hR⟩:∃R,R=isNum s.data.toList:=⟨_,rfl⟩
 rw[←hR];have HR:Hid (R=isNum s.data.toList):=hR;have hl:=Pl.aN s;have HL:Hid (s.size=s.data.toList.length):=hl;clear hR hl;go_enter Tryz.func108,Tryz.ntmps108;go_wp2;go_loopw [6] (fun i W=>∃m:Nat,m≤s.size∧i=.int .i64 m∧Hid (∀j,(h:j<m)→(h2:j<s.size)→D4 s[j]=true)∧W=w) (fun i _=>((s.size:Int)-intOf i).toNat)
 case atStart=>exact⟨0,vom,rfl,fun j hj=>by omega,rfl⟩
 case round=>
  obtain⟨m,hm,rfl,HJ,rfl⟩:=hrel;by_cases hlt:m<s.size
  ·have c:Hid (m<s.size):=hlt
   have HX:Hid (D4 s[m]=false→R=false):=fun h=>by
    obtain⟨h2,e⟩:=EY s m hlt;rw[HR.out];unfold isNum
    have:s.data.toList.all D4=false:=by
     rw[List.all_eq_false];exact⟨s.data.toList[m],List.getElem_mem _,by rw[(XI D4 e).trans h];decide⟩
    rw[this]
    rfl
   have HY:Hid (D4 s[m]=true→∀j,(h:j<m+1)→(h2:j<s.size)→D4 s[j]=true):=fun h j hj h2=>by
    by_cases e:j=m
    ·subst e;exact h
    ·exact HJ.out j vom h2
   have HD:Hid (D4 s[m]=decide (48≤s[m].toNat∧s[m].toNat≤57)):=rfl;by_cases h1:s[m].toNat<48
   ·have HF:Hid (R=false):=HX.out (by rw[HD.out];simp;omega)
    have g:(s[m].toNat:Int)<48:=vom;go_wp2;go_ret;exact⟨by rw[HF.out];rfl,rfl⟩
   ·have g:¬(s[m].toNat:Int)<48:=vom
    by_cases h2:57<s[m].toNat
    ·have HF:Hid (R=false):=HX.out (by rw[HD.out];simp;omega)
     have f:57<(s[m].toNat:Int):=vom;go_wp2;go_ret;exact⟨by rw[HF.out];rfl,rfl⟩
    ·have HN:Hid _:=HY.out (by rw[HD.out];simp;omega)
     have f:¬57<(s[m].toNat:Int):=vom;clear HX HY HD HJ
     go_wp2_with fail
     go_roundw
     case rel=>exact⟨m+1,c.out,by go_num,HN,by first|rfl|trivial⟩
     case measure=>have:=c.out;simp[intOf]<;>omega
  ·obtain rfl:m=s.size:=vom
   have d:Hid (s.data.toList.all D4=true):=by
    rw[Hid,Yv];intro x hx;obtain⟨i,hi,rfl⟩:=YB.1 hx;have h2:i<s.size:=by rw[HL.out];exact hi
    exact HJ.out i h2 h2
   have b:Hid (R=(s[0] != 48||s.data.toList==[48])):=by
    rw[Hid,HR.out];unfold isNum;rw[d.out,Bool.true_and];obtain⟨h2,e⟩:=EY s 0 h0;cases hls:s.data.toList with
    |nil=>rw[hls]at h2;simp at h2
    |cons x xs=>
     have:x=s[0]:=by rw[←e];simp[hls]
     rw[this];by_cases hx:s[0]=48
     ·simp[hx]
     ·have h1:(s[0] != 48)=true:=by simpa using hx
      have h2:(List.head? (s[0] :: xs) != some 48)=true:=by simpa using hx
      rw[h1,h2]
   by_cases hz:s[0]=48
   ·have a:(s[0].toNat:Int)=48:=by rw[hz];rfl
    have HF:Hid (R=(s.toList==[48])):=by
     rw[Hid,b.out,mS,hz]
     rfl
    go_wp2;go_ret;exact⟨by rw[HF.out];rfl,rfl⟩
   ·have HF:Hid (R=true):=by
     have h1:(s[0] != 48)=true:=by simpa using hz
     rw[Hid,b.out,h1]
     rfl
    have a:¬(s[0].toNat:Int)=48:=fun h=>hz (UInt8.toNat.inj (show s[0].toNat=UInt8.toNat 48 from(by omega:s[0].toNat=48)));have k:((s[0].toNat:Int) != 48)=true:=by simpa using a
    go_wp2;go_ret;exact⟨by rw[HF.out];rfl,rfl⟩
theorem mA(l:List UInt8)(p:Nat)(lo hi:Int)(hhi:hi≤1000)(h0:l≠[])(hs:l.length≤65536)(w:V8)(he:ia w):
  WA qf 71 #[wm l p,.int .i64 lo,.int .i64 hi] w fun e w'=>(lX l lo hi=0→e=.returned (.int .i64 ((dQ 0 l:Nat):Int)))∧(lX l lo hi≠0→e=.panicked [gY (lX l lo hi) p])∧Wh w.heap.size w w':=by
 obtain⟨s,n⟩:∃s:ByteArray,s=⟨l.toArray⟩:=⟨_,rfl⟩
 have a:s.data.toList=l:=by rw[n]
 have hz:=Pl.aN s;rw[a]at hz;have q:0<s.size:=by rw[hz];exact List.length_pos_iff.2 h0
 unfold wm;rw[←n];have j:Wh w.heap.size w (w.alloc (.cells #[.string s,.int .i64 (p:Int)] 87)):=(Below.refl _ w).alloc (R3 _) _;have c:=af.new w 87 #[.string s,.int .i64 (p:Int)];have c0:=af.cell c (i:=0) rfl;have c1:=af.cell c (i:=1) rfl;have b:Hid _:=Iv s q vom (w.alloc (.cells #[.string s,.int .i64 (p:Int)] 87));rw[a]at b;have HB:Hid _:=j;have HQ:Hid (af (w.alloc (.cells #[.string s,.int .i64 (p:Int)] 87)) w.heap.size 87 #[.string s,.int .i64 (p:Int)]):=c;have o:Hid (lX l lo hi=if isNum l=false then 2 else FT (dQ 0 l:Nat) lo hi):=rfl;generalize lX l lo hi=E at *;by_cases hn:isNum l=true
 ·have k:l.all D4=true:=by unfold isNum at hn;rw[Wy]at hn;exact hn.1
  have HA:=Ka s vom (w.alloc (.cells #[.string s,.int .i64 (p:Int)] 87)) (he.below j) (by rw[a];exact h0) (by rw[a];exact k);rw[a]at HA;have z:Hid (E=FT (dQ 0 l:Nat) lo hi):=by rw[Hid,o.out,hn];rfl
  rw[hn]at b;generalize dQ 0 l=v at *;by_cases hv:v<9223372036854775808
  ·have m:Hid (WA qf 109 #[.string s] (w.alloc (.cells #[.string s,.int .i64 (p:Int)] 87)) fun e w'=>e=.returned (.tuple #[.int .i64 ((v:Nat):Int),.nilIface])∧Wh (w.alloc (.cells #[.string s,.int .i64 (p:Int)] 87)).heap.size (w.alloc (.cells #[.string s,.int .i64 (p:Int)] 87)) w'):=We HA (fun e w' h=>⟨h.1 hv,h.2.2⟩)
   clear HA hn k hz q a n j c o he;go_enter Tryz.func71,Tryz.ntmps71
   go_wp2_with fail
   refine We b.out ?_;rintro e V ⟨rfl,rfl⟩
   go_wp2_with fail
   refine We m.out ?_;rintro e V ⟨rfl,hb⟩;have g:=af.below HQ.out hb (af.lt HQ.out);have u1:=af.cell g (i:=1) rfl;have d:Hid (Wh w.heap.size w V):=HB.out.trans (hb.mono HB.out.size);have B:=hb;clear hb g c0 c1 b m;have A:Hid (af V w.heap.size 87 #[.string s,.int .i64 (p:Int)]):=af.below HQ.out B (af.lt HQ.out);have HO:Hid (∀X,WA qf 76 #[.int .i64 (v:Int),.int .i64 lo,.int .i64 hi] X fun e w'=>e=.returned (.int .i64 (FT (v:Nat) lo hi))∧w'=X):=fun X=>EI _ _ _ X;rw[←z.out]at HO;clear B
   go_wp2_with fail
   by_cases hE:E=0
   ·have D:Hid (E=0):=hE
    have HP:Hid (∀X,WA qf 19 #[.int .i64 E,.int .i64 (p:Int)] X fun e w'=>e=.returned (.tuple #[])∧w'=X):=fun X=>by rw[hE];exact jd _ X
    clear hE;refine Xb ?_;refine Wz (S:=fun W=>af W w.heap.size 87 #[.string s,.int .i64 (p:Int)]∧Wh V.heap.size V W) vkr ⟨A.out,(Below.refl _ _).drew⟩ (fun hS=>?_);refine vuq 0 27 (.int .i64 (v:Int)) ?_;refine vuq 1 28 (.int .i64 lo) ?_;refine vuq 2 29 (.int .i64 hi) ?_;refine vuq 4 31 (.pointer (some ⟨w.heap.size,1,none⟩)) ?_;refine vuk 5 32 (.int .i64 (p:Int)) rfl (fun W hW=>by have u:=af.cell hW.1 (i:=1) rfl;clear hS hW;go_simp) hS ?_;refine rd1 3 rfl (fun K hK=>?_);go_simp;refine We (HO.out _) ?_;rintro e Y ⟨rfl,rfl⟩;refine hK.out _ _ (hS) (fun hS1=>?_);clear hK hS K;have hS:=hS1;clear hS1;refine rd1 6 rfl (fun K hK=>?_);go_simp;refine We (HP.out _) ?_;rintro e Y ⟨rfl,rfl⟩;refine hK.out _ _ (hS) (fun hS1=>?_);clear hK hS K;have hS:=hS1;clear hS1;refine Xq vkr ?_ _;refine WU ?_;have C:Hid _:=d.out.trans (hS.2.mono d.out.size);clear hS;go_wp2;go_ret;exact⟨fun _=>rfl,fun h=>absurd D.out h,C.out⟩
   ·have y:Hid (E≠0):=hE
    have HP:Hid (∀X,WA qf 19 #[.int .i64 E,.int .i64 (p:Int)] X fun e w'=>e=.panicked [gY E (p:Int)]∧w'=X):=fun X=>gG E _ (by simpa using hE) X;clear hE;refine Wz (S:=fun W=>af W w.heap.size 87 #[.string s,.int .i64 (p:Int)]∧Wh V.heap.size V W) vkr ⟨A.out,(Below.refl _ _).drew⟩ (fun hS=>?_);refine vvq 0 27 (.int .i64 (v:Int)) ?_;refine vvq 1 28 (.int .i64 lo) ?_;refine vvq 2 29 (.int .i64 hi) ?_;refine vvq 4 31 (.pointer (some ⟨w.heap.size,1,none⟩)) ?_;refine vup 5 32 (.int .i64 (p:Int)) rfl (fun W hW=>by have u:=af.cell hW.1 (i:=1) rfl;clear hS hW;go_simp) hS ?_;refine rd1 3 rfl (fun K hK=>?_);go_simp;refine We (HO.out _) ?_;rintro e Y ⟨rfl,rfl⟩;refine hK.out _ _ (hS) (fun hS1=>?_);clear hK hS K;have hS:=hS1;clear hS1;refine rd1 6 rfl (fun K hK=>?_);go_simp;refine We (HP.out _) ?_;rintro e Y ⟨rfl,rfl⟩;exact⟨rfl,fun h=>absurd h y.out,fun _=>rfl,d.out.trans (hS.2.mono d.out.size)⟩
  ·have m:Hid (WA qf 109 #[.string s] (w.alloc (.cells #[.string s,.int .i64 (p:Int)] 87)) fun e w'=>(∃x te pe,e=.returned (.tuple #[.int .i64 x,.iface te pe]))∧Wh (w.alloc (.cells #[.string s,.int .i64 (p:Int)] 87)).heap.size (w.alloc (.cells #[.string s,.int .i64 (p:Int)] 87)) w'):=We HA (fun e w' h=>⟨h.2.1 hv,h.2.2⟩)
   have f:Hid (E=3):=by rw[Hid,z.out];unfold FT;rw[Wc (.inr vom)]
   clear HA hn k hz q a n j c o he hv;go_enter Tryz.func71,Tryz.ntmps71
   go_wp2_with fail
   refine We b.out ?_;rintro e V ⟨rfl,rfl⟩
   go_wp2_with fail
   refine We m.out ?_;rintro e V ⟨⟨x,te,pe,rfl⟩,hb⟩;have g:=af.below HQ.out hb (af.lt HQ.out);have u1:=af.cell g (i:=1) rfl;have d:Hid (Wh w.heap.size w V):=HB.out.trans (hb.mono HB.out.size);have HT:Hid _:=dr 3 p V;clear hb g c0 c1 b m
   go_wp2_with fail
   refine We HT.out ?_;rintro e V2 ⟨rfl,rfl⟩;exact⟨rfl,fun h=>absurd (f.out.symm.trans h) vde,fun _=>by rw[f.out],d.out⟩
 ·have f:Hid (E=2):=by rw[Hid,o.out,Wc (by simpa using hn)]
  have t:isNum l=false:=by simpa using hn
  rw[t]at b;have HT:Hid _:=dr 2 p (w.alloc (.cells #[.string s,.int .i64 (p:Int)] 87));clear hn t hz q a n j c o he;go_enter Tryz.func71,Tryz.ntmps71
  go_wp2_with fail
  refine We b.out ?_;rintro e V ⟨rfl,rfl⟩
  go_wp2_with fail
  refine We HT.out ?_;rintro e V2 ⟨rfl,rfl⟩;exact⟨rfl,fun h=>absurd (f.out.symm.trans h) vde,fun _=>by rw[f.out],HB.out⟩
end
end Go.Proofs.YtpcnpkhgjanamaaGreatDoor
