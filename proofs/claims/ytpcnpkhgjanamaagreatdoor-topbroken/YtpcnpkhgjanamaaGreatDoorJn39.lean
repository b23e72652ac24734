import Derived.Test.YtpcnpkhgjanamaaGreatDoorPz
import Derived.Test.YtpcnpkhgjanamaaGreatDoorJn38
namespace Go.Proofs.YtpcnpkhgjanamaaGreatDoor
open Go.Proofs.Tryz renaming prog→qf,underlying35→WH
open Go renaming Value→R2,World→V8,Calls→WA
open Go.RowKit renaming Below→Wh
open Go.RowKit.Below renaming refl→Wm
open Go.World.ownsRow renaming lt→WC,alloc→Xp
open Go.Operand renaming tmp→XW
open Go.AllReadyH renaming cons→YX
open Go.Value renaming oneCell'→ZN
set_option maxRecDepth 100000
set_option maxHeartbeats 8000000
section
open Go.RowKit PK Vg
def Aa(G E1 E2:Int)(c t:List UInt8):Int:=if G≠0 then G else if E1≠0 then E1 else if E2≠0 then E2 else if c.length<1∨32<c.length then 5 else if t.length≠c.length then 8 else if mt t c 0=true then 8 else 0
def Ah(g:Gm)(c t:List UInt8):Int:=Aa (gE g) (gx c) (gx t) c t
theorem jx{g:Gm}{c t:List UInt8}(h:Ah g c t=0):gE g=0∧gx c=0∧gx t=0∧1≤c.length∧c.length≤32∧t.length=c.length∧mt t c 0=false:=by
 unfold Ah Aa at h;by_cases h1:gE g≠0
 ·rw[Wc h1]at h;exact absurd h h1
 rw[V9 h1]at h;by_cases h2:gx c≠0
 ·rw[Wc h2]at h;exact absurd h h2
 rw[V9 h2]at h;by_cases h3:gx t≠0
 ·rw[Wc h3]at h;exact absurd h h3
 rw[V9 h3]at h;by_cases h4:c.length<1∨32<c.length
 ·rw[Wc h4]at h;cases h
 rw[V9 h4]at h;by_cases h5:t.length≠c.length
 ·rw[Wc h5]at h;cases h
 rw[V9 h5]at h;by_cases h6:mt t c 0=true
 ·rw[Wc h6]at h;cases h
 simp at h1 h2 h3 h6;exact⟨h1,h2,h3,vom,vom,vom,h6⟩
theorem Cz(a b c:R2)(rf pl:Nat→Int)(cr te:ByteArray)(G E1 A1 E2 A2:Int)(HB1:Hid (E1=0→cr.size≤65536))(HB2:Hid (E2=0→te.size≤65536))(w:V8)
  (HW:Hid (∀W,Wh w.heap.size w W→WA qf 51 #[.agg (aP a b c rf pl)] W fun e w'=>e=.returned (.int .i64 G)∧Wh W.heap.size W w'))
  (HC:Hid (∀W,WA qf 20 #[.string cr] W fun e w'=>e=.returned (.agg #[.int .i64 E1,.int .i64 A1])∧Wh W.heap.size W w'))
  (HT:Hid (∀W,WA qf 20 #[.string te] W fun e w'=>e=.returned (.agg #[.int .i64 E2,.int .i64 A2])∧Wh W.heap.size W w')) :
  WA qf 25 #[.agg (aP a b c rf pl),.string cr,.string te] w fun e w'=>e=.returned (.int .i64 (Aa G E1 E2 cr.data.toList te.data.toList))∧Wh w.heap.size w w':=by
 have h0:=cU.new w a b c rf pl;have j:Hid (cr.size=cr.data.toList.length):=Pl.aN cr;have n:Hid (te.size=te.data.toList.length):=Pl.aN te;go_enter Tryz.func25,Tryz.ntmps25
 go_wp2_with (first|refine Wn rfl 35 _ rfl w.heap.size rfl 35 (aP a b c rf pl) (0,0) _ h0.row WH rfl (by rw[aD];exact aE) ?_)
 refine(HW.out _ h0.below).mono ?_;rintro e W1 ⟨rfl,hb⟩;have h1:=h0.step hb;clear hb h0 HW;by_cases hG:G=0
 case neg=>
  have z:(G != 0)=true:=by simpa using hG
  have d:Hid (Aa G E1 E2 cr.data.toList te.data.toList=G):=by unfold Aa;rw[Hid,Wc hG]
  clear hG;go_wp2;go_ret;exact⟨by rw[d.out];rfl,h1.below⟩
 subst hG
 go_wp2_with fail
 refine(HC.out _).mono ?_;rintro e W2 ⟨rfl,hb⟩;have h2:=Pc.new (h1.step hb) (.int .i64 E1) (.int .i64 A1);have g:Hid _:=h2.mg.below;have c0:=h2.f.cell (i:=0) rfl;have t:Hid _:=h2.mg;clear hb h1 HC h2;by_cases hE:E1=0
 case neg=>
  have u:(E1 != 0)=true:=by simpa using hE
  have d:Hid (Aa 0 E1 E2 cr.data.toList te.data.toList=E1):=by unfold Aa;rw[Hid,V9 (fun h=>h rfl),Wc hE]
  clear hE;go_wp2;go_ret;exact⟨by rw[d.out];rfl,g.out⟩
 subst hE;have A:=HB1.out rfl
 go_wp2_with fail
 clear c0;refine(HT.out _).mono ?_;rintro e W3 ⟨rfl,hb⟩;have h3:=Pc.new (t.out.step hb) (.int .i64 E2) (.int .i64 A2);have g:Hid _:=h3.mg.below;have c0:=h3.f.cell (i:=0) rfl;clear hb HT h3 t;by_cases hE:E2=0
 case neg=>
  have u:(E2 != 0)=true:=by simpa using hE
  have d:Hid (Aa 0 0 E2 cr.data.toList te.data.toList=E2):=by unfold Aa;rw[Hid,V9 (fun h=>h rfl),V9 (fun h=>h rfl),Wc hE]
  clear hE;go_wp2;go_ret;exact⟨by rw[d.out];rfl,g.out⟩
 subst hE;have B:=HB2.out rfl;have s:Hid (Aa 0 0 0 cr.data.toList te.data.toList=if cr.data.toList.length<1∨32<cr.data.toList.length then 5 else if te.data.toList.length≠cr.data.toList.length then 8 else if mt te.data.toList cr.data.toList 0=true then 8 else 0):=by unfold Aa;rw[Hid,V9 (fun h=>h rfl),V9 (fun h=>h rfl),V9 (fun h=>h rfl)]
 obtain⟨V,hV⟩:∃x,x=W3.alloc (.cells #[.int .i64 0,.int .i64 A2] 26):=⟨_,rfl⟩
 rw[←hV]at g c0;by_cases hl:cr.size<1∨32<cr.size
 case pos=>
  have d:Hid (Aa 0 0 0 cr.data.toList te.data.toList=5):=by rw[Hid,s.out,Wc (by rw[←j.out];exact hl)]
  by_cases hl1:cr.size<1
  ·have o:(cr.size:Int)<1:=vom
   clear hl hl1
   go_upto_region 10 with fail
   rw[←hV];clear hV;go_wp2;go_ret;exact⟨by rw[d.out];rfl,g.out⟩
  ·have o:¬(cr.size:Int)<1:=vom
   have v:(32:Int)<(cr.size:Int):=vom;clear hl hl1
   go_upto_region 10 with fail
   rw[←hV];clear hV;go_wp2;go_ret;exact⟨by rw[d.out];rfl,g.out⟩
 have m:Hid (Aa 0 0 0 cr.data.toList te.data.toList=if te.data.toList.length≠cr.data.toList.length then 8 else if mt te.data.toList cr.data.toList 0=true then 8 else 0):=by rw[Hid,s.out,V9 (by rw[←j.out];exact hl)]
 have o:¬(cr.size:Int)<1:=vom;have v:¬(32:Int)<(cr.size:Int):=vom;have C:cr.size≤32:=vom;clear hl
 go_upto_region 10 with fail
 rw[←hV];clear hV;by_cases hq:te.size=cr.size
 case neg=>
  have d:Hid (Aa 0 0 0 cr.data.toList te.data.toList=8):=by rw[Hid,m.out,Wc (by rw[←j.out,←n.out];exact hq)]
  have y:(((te.size:Nat):Int) != ((cr.size:Nat):Int))=true:=vso;clear hq;go_wp2;go_ret;exact⟨by rw[d.out];rfl,g.out⟩
 have l:Hid (Aa 0 0 0 cr.data.toList te.data.toList=if mt te.data.toList cr.data.toList 0=true then 8 else 0):=by rw[Hid,m.out,V9 (by rw[←j.out,←n.out];exact fun h=>h hq)]
 have q:Hid (∀W,WA qf 52 #[.string te,.string cr] W fun e w'=>e=.returned (.bool (mt te.data.toList cr.data.toList 0))∧Wh W.heap.size W w'):=fun W=>La te cr vom vom W;have y:(((te.size:Nat):Int) != ((cr.size:Nat):Int))=false:=vso;clear hq
 go_wp2_with fail
 refine(q.out _).mono ?_;rintro e W4 ⟨rfl,hb⟩;have k:=g.out.trans (hb.mono g.out.size);clear hb g q c0;cases hm:mt te.data.toList cr.data.toList 0
 ·have d:Hid (Aa 0 0 0 cr.data.toList te.data.toList=0):=by rw[Hid,l.out,hm];rfl
  clear hm;go_wp2;go_ret;exact⟨by rw[d.out];rfl,k⟩
 ·have d:Hid (Aa 0 0 0 cr.data.toList te.data.toList=8):=by rw[Hid,l.out,hm];rfl
  clear hm;go_wp2;go_ret;exact⟨by rw[d.out];rfl,k⟩
theorem Ej(vm:R2)(g:Gm)(cr te:ByteArray)(w:V8)(hm:cL w vm g):WA qf 25 #[vm,.string cr,.string te] w fun e w'=>e=.returned (.int .i64 (Ah g cr.data.toList te.data.toList))∧Wh w.heap.size w w':=by
 have HW:=fun W (hb:Wh w.heap.size w W)=>zf vm g W (hm.below hb);have HC:=fun W=>fJ cr W;have HT:=fun W=>fJ te W;obtain⟨a,b,c,rfl,_⟩:=hm
 have d:∀s:ByteArray,gx s.data.toList=0→s.size≤65536:=fun s hs=>by
  have:=Pl.aN s;rcases lW s.data.toList with⟨_,_,h,_⟩|h
  ·omega
  ·rw[hs]at h;cases h
 exact Cz a b c g.rf g.pl cr te _ _ _ _ _ (d cr) (d te) w HW HC HT
theorem Ac(m:Bo.Mn)(hm:m.Ok)(hk32:m.k≤32)(A:Nat)(hA:A=Bo.most (fun c=>(Bo.ml m c m.k).length) 26)(ok:Nat→Bool)(pr:Nat→Nat→Int)(hres:∀b,b<26→Bo.tq m A b (ok b) (pr b))(a b c:R2)(rf pl:Nat→Int)(G:Nat)(w:V8)(hmn:vt w G (fun c=>Bo.ml m c m.k))
  (HU:Hid (∀W,Wh w.heap.size w W→WA qf 57 #[.agg (aP a b c rf pl),.int .i64 (m.k:Nat)] W fun e w'=>∃q7,e=.returned (.slice (some ⟨q7,0,none⟩) m.k m.k)∧W.heap.size≤q7∧af w' q7 33 (ints (m.k*26) (flat m.s))∧Wh W.heap.size W w')):WA qf 29 #[.agg (aP a b c rf pl),.pointer (some ⟨G,0,none⟩),.int .i64 (m.k:Nat)] w fun e w'=>∃v B,e=.returned v∧w.heap.size≤B∧iK w' B v (fun b=>CU A b (pr b)) (fO ok 26)∧Wh w.heap.size w w':=by
 obtain⟨i0,Q,e5,S,Y⟩:=ig yZ;have h0:=cU.new w a b c rf pl;have N:A<26:=by rw[hA];exact Bo.zY _
 have K:Hid (∀W,Wh w.heap.size w W→WA qf 58 #[.pointer (some ⟨G,0,none⟩)] W fun e w'=>e=.returned (.int .i64 (A:Nat))∧Wh W.heap.size W w'):=fun W hb=>by rw[hA];exact Hf G _ W (hmn.below hb)
 have P:Hid (∀W,Wh w.heap.size w W→∀vk,rI W vk m.k m.s→∀k,k<26→∀W',Wh W.heap.size W W'→WA qf 59 #[.pointer (some ⟨G,0,none⟩),vk,.int .i64 (A:Nat),.int .i64 (k:Nat)] W' fun e w'=>e=.returned (.tuple #[.agg (ints 26 (pr k)),.bool (ok k)])∧Wh W'.heap.size W' w'):=fun W hb vk hvk k hk W' hb'=>Cr m hm hk32 A k N hk (ok k) (pr k) (hres k hk) G vk W' (hmn.below (hb.trans (hb'.mono hb.size))) (hvk.below hb');clear hmn hA hres hm;go_enter Tryz.func29,Tryz.ntmps29
 go_wp2_with (first|refine Wn rfl 35 _ rfl w.heap.size rfl 35 (aP a b c rf pl) (0,0) _ h0.row WH rfl (by rw[aD];exact aE) ?_)
 refine(HU.out _ h0.below).mono ?_;rintro e W1 ⟨q7,rfl,e4,F,hb⟩;have l:=h0.below.trans (hb.mono h0.below.size);clear hb h0 HU e4
 go_wp2_with fail
 refine(K.out _ l).mono ?_;rintro e V ⟨rfl,hb⟩;have H:=l.trans (hb.mono l.size);have Z:Hid (∀k,k<26→∀W',Wh V.heap.size V W'→WA qf 59 #[.pointer (some ⟨G,0,none⟩),.slice (some ⟨q7,0,none⟩) m.k m.k,.int .i64 (A:Nat),.int .i64 (k:Nat)] W' fun e w'=>e=.returned (.tuple #[.agg (ints 26 (pr k)),.bool (ok k)])∧Wh W'.heap.size W' w'):=P.out V H _ (A4 (F.below hb F.lt));have I:Hid _:=H;clear hb l H F P K
 go_wp2_with fail
 go_loopw [9,18] (fun o i W=>∃(k:Nat) (v:R2),k≤26∧i=.int .i64 (k:Nat)∧v=o∧iK W V.heap.size v (fun b=>CU A b (pr b)) (fO ok k)∧Wh V.heap.size V W) (fun _ i _=>((26:Int)-intOf i).toNat)
 case atStart=>exact⟨0,_,vom,rfl,rfl,World.ownsRow_nil _ _ _ _,Wm _ _⟩
 case round=>
  obtain⟨k,v,hk,rfl,rfl,g,t⟩:=hrel;have M:Hid ((fO ok k).length≤26):=by have:=zo ok k;rw[Hid];omega
  by_cases hlt:k<26
  case neg=>
   obtain rfl:k=26:=vom;have n:Hid _:=t;have h:Hid _:=g;clear hlt g t;go_wp2;go_ret;exact⟨v,V.heap.size,rfl,I.out.size,h.out,I.out.trans (n.out.mono I.out.size)⟩
  have C:Hid (k<26):=hlt;have e7:(k:Int)<26:=vom;have L:Hid _:=Z.out k hlt;have n:Hid _:=t;have h:Hid _:=g;have T:=t.size;clear hlt g t
  go_wp2_with fail
  refine(L.out _ n.out).mono ?_;rintro e W3 ⟨rfl,hb⟩;have f:=mh h.out hb;have d:=n.out.trans (hb.mono n.out.size);clear hb n h L;have O:=bR dG;cases hok:ok k
  ·have E:Hid (fO ok (k+1)=fO ok k):=Ug hok
   have e3:Hid (iK ((W3.alloc (.cells (ints 26 fun _=>0) 33)).setRow W3.heap.size (ints 26 (pr k))) V.heap.size v (fun b=>CU A b (pr b)) (fO ok k)):=mh f (Below.setRow ((Wm W3.heap.size W3).alloc (R3 _) (.cells (ints 26 fun _=>0) 33)) W3.heap.size (R3 _) (ints 26 (pr k)));have e6:Hid (Wh V.heap.size V ((W3.alloc (.cells (ints 26 fun _=>0) 33)).setRow W3.heap.size (ints 26 (pr k)))):=Below.setRow (d.alloc d.size _) _ d.size _;clear f d hok
   go_wp2_with (first|refine Wk rfl 33 _ _ rfl W3.heap.size (ints 26 (pr k)) rfl rfl 33 _ (af.new W3 _ _) (by rw[ag];exact aj) (by simp only[ag]) (aI _ _) ?_)
   go_roundw
   case rel=>exact⟨k+1,v,C.out,by go_num,rfl,by rw[E.out];exact e3.out,e6.out⟩
   case measure=>have:=C.out;simp[intOf];omega
  ·have E:Hid (fO ok (k+1)=fO ok k++[k]):=Rb hok
   clear hok
   go_upto_region 8 with(first|refine Wk rfl 33 _ _ rfl W3.heap.size (ints 26 (pr k)) rfl rfl 33 _ (af.new W3 _ _) (by rw[ag];exact aj) (by simp only[ag]) (aI _ _) ?_)
   have D:=(af.new W3 33 (ints 26 fun _=>0)).row (ints 26 (pr k));have J:=Below.setRow ((Wm W3.heap.size W3).alloc (R3 _) (.cells (ints 26 fun _=>0) 33)) W3.heap.size (R3 _) (ints 26 (pr k));have y:=mh f J;have z:=d.trans (J.mono d.size);generalize (W3.alloc (.cells (ints 26 fun _=>0) 33)).setRow W3.heap.size (ints 26 (pr k))=X at *;obtain⟨q11,hq⟩:∃x,x=W3.heap.size:=⟨_,rfl⟩
   rw[←hq]at D⊢;have T:=z.size;clear hq J f d O
   go_wp2_with (first|refine Wn rfl 33 _ rfl q11 rfl 33 (ints 26 (pr k)) (0,0) _ D Tryz.underlying33 rfl (by rw[ag];exact aj) ?_|refine fe rfl 48 [(0,.tmp 31),(1,.tmp 32),(2,.tmp 33)] rfl [(0,.int .i64 (A:Nat)),(1,.int .i64 (k:Nat)),(2,.agg (ints 26 (pr k)))] rfl _ (Ai A k (pr k)) ?_|refine jj rfl 44 48 _ rfl 28 (CU A k (pr k)) rfl vde Tryz.underlying44 zw vde ?_|(at_builtin;refine wpList_append_own _ rfl _ _ 44 rfl V.heap.size 48 i0 (.agg (ints 28 fun _=>0)) 28 224 Tryz.underlying44 Q e5 S Y (ag _ _) vde _ _ _ rfl (Xp y _) ⟨X.heap.size,0,none⟩ 1 1 (ints 28 (CU A k (pr k))).toList rfl (by rw[Wx,ag]) (fun q u hu=>by rw[Addr.add_mid,WN];exact(af.new X 48 (ints 28 (CU A k (pr k)))).cell (by rw[←Wo];exact hu)) (fun u hu=>Gy hu) (by have:=M.out;unfold maxLen;omega) (by have:=M.out;omega) vso ?_;intro v' w5 hown5 hgrow5 _))
   have U:Hid (iK w5 V.heap.size v' (fun b=>CU A b (pr b)) (fO ok k++[k])):=by
    rw[Hid,iK,←Ng,WM];exact hown5
   have b9:Hid (Wh V.heap.size V w5):=(z.alloc z.size _).grown hgrow5 vso (fun j hj=>(WC y j hj).1);go_roundw
   case rel=>exact⟨k+1,v',C.out,by go_num,rfl,by rw[E.out];exact U.out,b9.out⟩
   case measure=>have:=C.out;simp[intOf];omega
theorem EF{cr te:ByteArray}{g:Gm}{S:Nat→Nat→Nat}(h:Ah g cr.data.toList te.data.toList=0):JK ⟨cr.size,fun i=>Vg.num (cr.data.toList.getD i 0),fun i=>Vg.num (te.data.toList.getD i 0),S⟩ cr te:=by
 obtain⟨_,h2,h3,h4,h5,h6,_⟩:=jx h;have s1:=Pl.aN cr;have s2:=Pl.aN te
 have one:∀s:ByteArray,gx s.data.toList=0→∀i,i<s.size→Vg.num (s.data.toList.getD i 0)<26∧∀h:i<s.size,(s[i].toNat:Int)=(Vg.num (s.data.toList.getD i 0):Int)+65:=fun s hs i hi=>by
  rcases lW s.data.toList with⟨_,_,_,e4⟩|e1
  ·have hx:=(Jz e4).at (mW hi)
   refine⟨oJ hx,fun _=>?_⟩;rw[←fI s i hi];unfold Vg.num;omega
  ·rw[hs]at e1;cases e1
 exact⟨rfl,vom,vom,fun i hi=>one cr h2 i hi,fun i hi=>one te h3 i (by have h7:i<cr.size:=hi;omega)⟩
def mL(g:Gm)(cr te:ByteArray):Bo.Mn:=⟨cr.size,fun i=>Vg.num (cr.data.toList.getD i 0),fun i=>Vg.num (te.data.toList.getD i 0),eA (Om.bA (bZ g))⟩
theorem Dk{g:Gm}{cr te:ByteArray}(h:Ah g cr.data.toList te.data.toList=0):(mL g cr te).Ok∧(mL g cr te).k≤32:=by
 have hm:=EF (S:=eA (Om.bA (bZ g))) h;have hM:=Om.gX (fq (jx h).1).1;exact⟨⟨fun i hi=>(hm.x i hi).1,fun i hi=>(hm.y i hi).1,fun i _ c hc=>(Om.eM hM _).lt _ hc⟩,hm.le⟩
structure Uo(g:Gm)(cr te:ByteArray)(A:Nat)(ok:Nat→Bool)(pr:Nat→Nat→Int):Prop where
 e:Ah g cr.data.toList te.data.toList=0
 a:A=Bo.most (fun c=>(Bo.ml (mL g cr te) c (mL g cr te).k).length) 26
 res:∀b,b<26→Bo.tq (mL g cr te) A b (ok b) (pr b)
theorem Dy(v:R2)(n:Nat)(f:Nat→Int)(hn:n*8≤140737488355328)(w:V8)(hv:aq w v n f):WA qf 30 #[v] w fun e w'=>∃v',e=.returned v'∧MW w' v' n f∧Wh w.heap.size w w':=by
 obtain⟨i0,s,z,x,m⟩:=ei ox;obtain⟨a,cap,rfl,y,hc⟩:=hv;unfold maxLen at y;cases a with
 |none=>
  have h0:n=0:=by
   rcases XK n with h|h
   ·exact h
   ·obtain⟨b,o,e,_⟩:=hc 0 h
    cases e
  subst h0;clear hc;have q:∀W,(binOp .eql 31 (.slice none 0 cap) (.slice none 0 0)).run qf W=.ok (.bool true) W:=fun _=>rfl;go_enter Tryz.func30,Tryz.ntmps30;go_wp2;go_ret;exact⟨_,rfl,⟨0,World.ownsRow_nil _ _ _ _⟩,Wm _ _⟩
 |some ad=>
  have d:∀W,Wh w.heap.size w W→∀j u,(ints n f).toList[j]?=some u→W.cell? (ad.add j)=some u:=fun W hb j u hu=>by
   have ex:(ints n f).toList[j]?=(ints n f)[j]?:=Wo;rw[ex]at hu;have hj:j<n:=by have:=(Wd.1 hu).1;rwa [ag]at this
   rw[aB f hj]at hu;obtain⟨b,o,e,c⟩:=hc j hj;cases e;rw[qd,←hu];exact(hb.cell (p:=⟨b,o+j,none⟩) (aA c)).trans c
  have l:Hid _:=d
  have g:∀u∈(ints n f).toList,u.oneCell'=true:=fun u hu=>by
   have:=aI n f;rw[WJ]at this;exact this u (by simpa using hu)
  have t:Hid _:=g;have i:(w.alloc (.cells #[] 3)).ownsRow w.heap.size 3 1 (.slice (some ⟨w.heap.size,0,none⟩) 0 0) 0 []:=uq (af.new w 3 #[]) (R3 _) rfl vde;have k:=(Wm w.heap.size w).alloc (R3 _) (.cells #[] 3);have q:∀W,(binOp .eql 31 (.slice (some ad) n cap) (.slice none 0 0)).run qf W=.ok (.bool false) W:=fun _=>rfl;clear hc d g;go_enter Tryz.func30,Tryz.ntmps30
  go_wp2_with (first|(at_builtin;refine wpList_append_own _ rfl _ _ 31 rfl w.heap.size 3 i0 (.int .i64 0) 1 8 Tryz.underlying31 s z x m rfl vde _ _ _ rfl i ad n cap (ints n f).toList rfl (by rw[Wx,ag,Nat.mul_one]) (l.out _ k) t.out (by unfold maxLen;omega) vom vsi ?_;intro v' w1 hown' hgrow _))
  go_ret;rw[WN,Yi]at hown';exact⟨v',rfl,⟨_,hown'⟩,k.grown hgrow vsi (fun p hp=>(WC i p hp).1)⟩
theorem I9{W:V8}{q g:Nat}{T T':TypeId}{c d x:Array R2}(hT:T≠T')(hr:af W g T c)(hq:af W q T' d):af (W.setRow q x) g T c:=by
 refine(setRow_other W q g x fun e=>?_).trans hr;subst e;have:some (Obj.cells c T (0,0))=some (Obj.cells d T' (0,0)):=hr.symm.trans hq;injection this with this;injection this with _ this;exact absurd this hT
theorem nI{W:V8}{q B n s:Nat}{T T':TypeId}{u:R2}{us:List R2}{d x:Array R2}(hT:T≠T')(hu:W.ownsRow B T s u n us)(hq:af W q T' d):(W.setRow q x).ownsRow B T s u n us:=by
 obtain⟨h1,h2⟩:=hu;exact⟨h1,h2.imp id fun⟨g,cap,cur,e,hB,hc,h3⟩=>⟨g,cap,cur,e,hB,I9 hT hc hq,h3⟩⟩
theorem mo:(qf.info? 46).map (·.zero)=some (some (.agg #[.slice none 0 0,.slice none 0 0])):=vkr
theorem dB:(qf.info? 46).map (·.size)=some 2:=vkr
theorem Ds(a b:Option Addr)(n m c d:Nat):qf.built 46 [(0,.slice a n c),(1,.slice b m d)]=some #[.slice a n c,.slice b m d]:=vkr
theorem Rc(a b c:R2)(g:Gm)(cr te:ByteArray)(A:Nat)(ok:Nat→Bool)(pr:Nat→Nat→Int)(ht:Uo g cr te A ok pr)(hsl:g.sl*8≤140737488355328)(bN bC G:Nat)(w:V8)(hm:cL w (.agg (aP a b c g.rf g.pl)) g)(hN:w.cell? ⟨bN,0,none⟩=some (.pointer (some ⟨G,0,none⟩)))(hC:w.cell? ⟨bC,0,none⟩=some (.string cr))(hmn:vt w G (fun c=>Bo.ml (mL g cr te) c (mL g cr te).k)):
  WA qf 28 #[.agg (aP a b c g.rf g.pl),.pointer (some ⟨bN,0,none⟩),.pointer (some ⟨bC,0,none⟩)] w fun e w'=>∃us ug,e=.returned (.tuple #[.agg #[us,ug],.bool (decide (0<(fO ok 26).length))])∧MW w' us g.sl g.st∧(∃B,iK w' B ug (fun b=>CU A b (pr b)) (fO ok 26))∧Wh w.heap.size w w':=by
 obtain⟨s,z⟩:=Dk ht.e;have HG:Hid (∀W,Wh w.heap.size w W→WA qf 29 #[.agg (aP a b c g.rf g.pl),.pointer (some ⟨G,0,none⟩),.int .i64 (cr.size:Nat)] W fun e w'=>∃v B,e=.returned v∧W.heap.size≤B∧iK w' B v (fun b=>CU A b (pr b)) (fO ok 26)∧Wh W.heap.size W w'):=fun W hb=>Ac (mL g cr te) s z A ht.a ok pr ht.res a b c g.rf g.pl G W (hmn.below hb) (fun W' hb'=>Lz _ g (jx ht.e).1 (mL g cr te).k vom W' ((hm.below hb).below hb'));obtain⟨a',b',c',e0,_,_,u⟩:=hm
 obtain rfl:c=c':=by
  have h1:=XI (fun v=>match v with|.agg x=>x[2]?| _=>none) e0;simp only[gM]at h1;exact XG h1
 have C:Hid (∀W,Wh w.heap.size w W→WA qf 30 #[c] W fun e w'=>∃v',e=.returned v'∧MW w' v' g.sl g.st∧Wh W.heap.size W w'):=fun W hb=>Dy c g.sl g.st hsl W (u.below hb);obtain⟨ac,cc,rfl,_,_⟩:=u;obtain⟨A0,f⟩:∃A0,A0=aP a b (.slice ac g.sl cc) g.rf g.pl:=⟨_,rfl⟩
 have q:A0.size=55:=by rw[f,aD]
 have Q:Hid (A0[2]?=some (.slice ac g.sl cc)):=by rw[Hid,f];exact gM _ _ _ _ _
 rw[←f]at HG⊢;have i:af ((w.alloc (.cells A0 35)).alloc (.cells #[.slice none 0 0,.slice none 0 0] 46)) w.heap.size 35 A0:=(af.new w _ _).alloc _
 have j:af ((w.alloc (.cells A0 35)).alloc (.cells #[.slice none 0 0,.slice none 0 0] 46)) (w.heap.size+1) 46 #[.slice none 0 0,.slice none 0 0]:=by
  have h:=af.new (w.alloc (.cells A0 35)) 46 #[.slice none 0 0,.slice none 0 0];rw[WI]at h;exact h
 have d:Wh w.heap.size w ((w.alloc (.cells A0 35)).alloc (.cells #[.slice none 0 0,.slice none 0 0] 46)):=((Wm _ w).alloc (R3 _) _).alloc vsi _;have c1:=(d.cell (aA hN)).trans hN;have c2:=(d.cell (aA hC)).trans hC;have K:=bR mo;have P:Hid ((fO ok 26).length≤26):=zo ok 26;obtain⟨L,hL⟩:∃L,L=fO ok 26:=⟨_,rfl⟩
 rw[←hL]at HG P⊢;clear f e0 hmn hN hC hL s ht;go_enter Tryz.func28,Tryz.ntmps28
 go_upto_region 1 with fail
 clear K;generalize (w.alloc (.cells A0 35)).alloc (.cells #[.slice none 0 0,.slice none 0 0] 46)=W0 at *
 go_wp2_with (first|refine Wn rfl 35 _ rfl w.heap.size rfl 35 A0 (0,0) _ i WH rfl (by rw[q];exact aE) ?_)
 refine(HG.out _ d).mono ?_;rintro e W1 ⟨ug,B,rfl,O,n,hb⟩;obtain⟨au,cu,rfl⟩:=mY n;have r0:=i.below hb i.lt;have r1:=j.below hb j.lt;have b1:=d.trans (hb.mono d.size);have c3:=r0.cell Q.out;clear hb i j d c1 c2 HG O
 go_wp2_with fail
 refine(C.out _ b1).mono ?_;rintro e W2 ⟨us,rfl,m,hb⟩
 obtain⟨as1,cs1,rfl⟩:∃x y,us=.slice x g.sl y:=by
  rcases m.form with⟨e,e2⟩|⟨x,y,e⟩
  ·exact⟨none,0,by rw[e,e2]⟩
  ·exact⟨_,_,e⟩
 have s1:=r1.below hb r1.lt;have b2:=b1.trans (hb.mono b1.size);have E:Hid _:=m;have D:Hid (iK W2 B (.slice au L.length cu) (fun b=>CU A b (pr b)) L):=iK.step n hb;have o:Hid _:=b2;obtain⟨X,hX⟩:∃X:Array R2,X=#[.slice as1 g.sl cs1,.slice au L.length cu]:=⟨_,rfl⟩
 have J:qf.built 46 [(0,.slice as1 g.sl cs1),(1,.slice au L.length cu)]=some X:=by rw[hX];exact Ds _ _ _ _ _ _
 have l:X.size=2:=by rw[hX];rfl
 have M:X.all (·.oneCell')=true:=by rw[hX];simp[ZN]
 have HX:Hid (X=#[.slice as1 g.sl cs1,.slice au L.length cu]):=hX;have t:=Below.setRow o.out (w.heap.size+1) (Nat.le_succ _) X;have I:Hid (Wh w.heap.size w (W2.setRow (w.heap.size+1) X)):=t
 have F:Hid (MW (W2.setRow (w.heap.size+1) X) (.slice as1 g.sl cs1) g.sl g.st):=by
  obtain⟨B1,k1⟩:=E.out;exact⟨B1,nI vde k1 s1⟩
 have H:Hid (iK (W2.setRow (w.heap.size+1) X) B (.slice au L.length cu) (fun b=>CU A b (pr b)) L):=nI vde (show W2.ownsRow _ 48 28 _ _ _ from D.out) s1;have N:=s1.row X;clear hb r0 r1 b1 c3 C n m b2 hX E D o t
 go_wp2_with (first|refine fe rfl 46 [(0,.tmp 14),(1,.tmp 15)] rfl [(0,.slice as1 g.sl cs1),(1,.slice au L.length cu)] rfl _ J ?_|refine Wk rfl 46 _ _ rfl (w.heap.size+1) X rfl rfl 46 _ s1 (by rw[l];exact dB) (by rw[l];rfl) M ?_)
 refine WL (v:=.tuple #[.agg X,.bool (decide (0<L.length))]) (aF rfl _ _ (w.heap.size+1) 46 _ (0,0) _ _ rfl rfl N Tryz.underlying46 rfl (by rw[l];exact dB)) rfl ?_;exact⟨_,_,by rw[HX.out],F.out,⟨B,H.out⟩,I.out⟩
theorem vo:(qf.info? 46).map (fun i=>(i.zero,i.size,i.bytes))=some (some (.agg #[.slice none 0 0,.slice none 0 0]),2,48):=vkr
theorem Ij:(qf.info? 46).map (fun i=>(i.zero,i.size))=some (some (.agg #[.slice none 0 0,.slice none 0 0]),2):=vkr
theorem kE.set{W:V8}{us ug:R2}{h:Hl}{N q:Nat}{d x:Array R2}(k:kE W us ug h N)(hq:af W q 46 d):kE (W.setRow q x) us ug h N:=by
 obtain⟨⟨B1,k1⟩,B2,k2⟩:=k;exact⟨⟨B1,nI vde k1 hq⟩,B2,nI vde (show W.ownsRow _ 48 28 _ _ _ from k2) hq⟩
theorem kE.form{W:V8}{us ug:R2}{h:Hl}{N:Nat}(k:kE W us ug h N):(∃a c,us=.slice a h.n c)∧∃a c,ug=.slice a (h.lg N).length c:=by
 obtain⟨k1,B,k2⟩:=k;refine⟨?_,mY (show W.ownsRow _ 48 28 _ _ _ from k2)⟩;rcases k1.form with⟨e,e2⟩|⟨x,y,e⟩
 ·exact⟨none,0,by rw[e,e2]⟩
 ·exact⟨_,_,e⟩
theorem cell_two_new(w:V8)(T:TypeId)(a b:R2):∀j u,([a,b]:List R2)[j]?=some u→(w.alloc (.cells #[a,b] T)).cell? ((⟨w.heap.size,0,none⟩:Addr).add j)=some u:=fun j u hj=>by
 rw[qd,WN];exact(af.new w T #[a,b]).cell (by rw[←Wo];exact hj)
theorem Tn(vm:R2)(g0:Gm)(hn1:1≤g0.n)(hn3:g0.n≤3)(hfit:∀r,r<g0.n→g0.nl r*8≤140737488355328)(hrl:g0.rl*8≤140737488355328)(k:Nat)(hk:k<26)(bN bC:Nat)(gs:Nat→Nat→Nat→Int)(lg:Nat→List Nat)(w:V8)(hm:cL w vm g0)
  (HLK:Hid (∀N a b c W,Wh w.heap.size w W→cL W (.agg (aP a b c g0.rf g0.pl)) (ie g0 N)→WA qf 28 #[.agg (aP a b c g0.rf g0.pl),.pointer (some ⟨bN,0,none⟩),.pointer (some ⟨bC,0,none⟩)] W fun e w'=>∃us ug,e=.returned (.tuple #[.agg #[us,ug],.bool ((⟨g0.n,gs,lg⟩:Hl).p N)])∧kE w' us ug (⟨g0.n,gs,lg⟩:Hl) N∧Wh W.heap.size W w')) :
  WA qf 56 #[vm,.int .i64 (k:Nat),.func (.func 28) #[] #[.pointer (some ⟨bN,0,none⟩),.pointer (some ⟨bC,0,none⟩)]] w fun e w'=>∃v,e=.returned v∧xd w' w.heap.size v ((⟨g0.n,gs,lg⟩:Hl).fY k (26 ^ (g0.n-1))) (⟨g0.n,gs,lg⟩:Hl)∧Wh w.heap.size w w':=by
 obtain⟨i0,q2,q9,q3,r6⟩:=ei vo
 have hM:26 ^ (g0.n-1)≤676:=by
  rcases(by omega:g0.n=1∨g0.n=2∨g0.n=3)with h|h|h<;>rw[h]<;>decide
 have p5:26*26 ^ (g0.n-1)=26 ^ g0.n:=by
  rw[Nat.mul_comm,←Nat.pow_succ,Nat.succ_eq_add_one,show g0.n-1+1=g0.n by omega]
 -- windows,standing and look,one behind the other
 have q7:Hid (∀N W,N<26 ^ g0.n→WA qf 101 #[.int .i64 (g0.n:Nat),.int .i64 (N:Nat)] W fun e w'=>∃g,e=.returned (.slice (some ⟨g,0,none⟩) g0.n g0.n)∧af w' g 3 (ints g0.n fun i=>((dx g0.n N i:Nat):Int))∧W.heap.size≤g∧Wh W.heap.size W w'):=fun N W hN=>Aj g0.n N vom hN W
 have k6:Hid (∀N g W,Wh w.heap.size w W→af W g 3 (ints g0.n fun i=>((dx g0.n N i:Nat):Int))→WA qf 100 #[vm,.slice (some ⟨g,0,none⟩) g0.n g0.n] W fun e w'=>∃a b,e=.returned (.agg (aP a b (.slice (some ⟨g,0,none⟩) g0.n g0.n) g0.rf g0.pl))∧cL w' (.agg (aP a b (.slice (some ⟨g,0,none⟩) g0.n g0.n) g0.rf g0.pl)) (ie g0 N)∧Wh W.heap.size W w'):=fun N g W hb hr=>by
  refine(vD vm g0 hn1 vom hfit hrl _ g0.n _ W (hm.below hb) (aq.JC hr (by unfold maxLen;omega))).mono ?_;rintro e w' ⟨v',rfl,h1,⟨a,b,rfl⟩,h2⟩;exact⟨a,b,rfl,h1,h2⟩
 obtain⟨h,hh⟩:∃h:Hl,h=(⟨g0.n,gs,lg⟩:Hl):=⟨_,rfl⟩
 have r5:Hid (h.n=g0.n):=by rw[hh];rfl
 rw[←hh]at HLK⊢;clear hh;obtain⟨a,b,c,rfl,q6,_,_⟩:=hm;have h0:=cU.new w a b c g0.rf g0.pl;obtain⟨aw,cw,R,rfl,_,_,_⟩:=q6;have c0:=h0.row.cell (dV _ _ _ _ _);obtain⟨A0,e4⟩:∃A0,A0=aP (.slice aw g0.n cw) b c g0.rf g0.pl:=⟨_,rfl⟩
 rw[←e4]at k6 h0 c0⊢;have q8:Hid (A0=aP (.slice aw g0.n cw) b c g0.rf g0.pl):=e4;have n4:A0.size=55:=by rw[e4,aD]
 clear hfit hrl e4;go_enter Tryz.func56,Tryz.ntmps56
 go_upto_region 1 with fail
 have C:af (w.alloc (.cells A0 35)) w.heap.size 35 A0:=af.new w _ _;have B:=(Wm w.heap.size w).alloc (R3 _) (.cells A0 35);have c0':=C.cell (i:=0) (v:=.slice aw g0.n cw) (by rw[q8.out];exact dV _ _ _ _ _);generalize w.alloc (.cells A0 35)=W0 at *;clear h0 c0
 go_wp2_with fail
 clear c0';go_loopw [8,18] (fun y x W=>∃j D:Nat,j≤g0.n-1∧D≤676∧x=.int .i64 (j:Nat)∧y=.int .i64 (D:Nat)∧Hid (D=26 ^ j)∧af W w.heap.size 35 A0∧Wh w.heap.size w W) (fun _ x _=>((g0.n:Int)-intOf x).toNat)
 case atStart=>exact⟨0,1,vom,vom,rfl,rfl,rfl,C,B⟩
 case round=>
  clear C B;obtain⟨j,D,hj,hD,rfl,rfl,HD,C,B⟩:=hrel;by_cases hlt:j<g0.n-1
  ·have L:Hid (j<g0.n-1):=hlt
   have o6:(j:Int)<(g0.n:Int)-1:=vom;have l9:Hid (D*26=26 ^ (j+1)):=by rw[Hid,HD.out,Nat.pow_succ]
   have k8:D*26≤676:=by
    rw[l9.out];exact Ws (Nat.pow_le_pow_right vde hlt) hM
   have HR:Hid _:=C;have HB:Hid _:=B;clear hlt HD C B;go_wp2;go_roundw
   case rel=>exact⟨j+1,D*26,L.out,k8,by go_num,by go_num,l9.out,HR.out,HB.out⟩
   case measure=>have:=L.out;simp[intOf];omega
  ·obtain rfl:j=g0.n-1:=vom
   have k7:¬((g0.n-1:Nat):Int)<(g0.n:Int)-1:=vom;have k5:Hid (26 ^ (g0.n-1)=D):=HD.out.symm;have e8:26*D=26 ^ g0.n:=by rw[←p5,k5.out]
   have r9:Hid _:=e8;have q4:Hid (∀i,h.fY k (i+1)=h.fY k i++if h.p (k*D+i)=true then[k*D+i]else[]):=fun i=>by rw[Hl.xG,r5.out,k5.out]
   have l5:((g0.n-1:Nat):Int)=(g0.n:Int)-1:=vom;clear hlt HD p5 e8 hM;rw[l5];have p9:¬(g0.n:Int)-1<(g0.n:Int)-1:=vom;clear k7 l5
   go_wp2_with fail
   go_loopw [9,24] (fun o x W=>∃(i:Nat) (u:R2),i≤D∧x=.int .i64 (i:Nat)∧u=o∧xd W (w.heap.size+1) u (h.fY k i) h∧af W w.heap.size 35 A0∧Wh w.heap.size w W) (fun _ x _=>((D:Int)-intOf x).toNat)
   case atStart=>exact⟨0,_,vom,rfl,rfl,xd.nil _ _ _,C,B⟩
   case round=>
    clear C B p9;obtain⟨i,u,hi,rfl,rfl,H,C,B⟩:=hrel;by_cases hlt:i<D
    case neg=>
     obtain rfl:i=D:=vom;have k7:¬((i:Nat):Int)<((i:Nat):Int):=vom
     have b9:Hid (xd wr w.heap.size u (h.fY k (26 ^ (g0.n-1))) h):=by
      rw[Hid,k5.out];exact xd.mono H (Nat.le_succ _)
     have l:Hid _:=B;clear H C B hlt;go_wp2;go_ret;exact⟨u,by first|rfl|trivial,b9.out,l.out⟩
    have L:Hid (i<D):=hlt;have o6:(i:Int)<(D:Int):=vom
    have k9:k*D+i<26 ^ g0.n:=by
     have h1:k*D+D≤26*D:=by rw[←Y5];exact Nat.mul_le_mul_right _ hk
     have:=r9.out;omega
    have s3:k*D≤16900:=by
     have:=Nat.mul_le_mul (show k≤25 by omega) hD;omega
    have e5:Hid _:=fun W=>q7.out (k*D+i) W k9;have O:Hid _:=k6.out (k*D+i);have Q:Hid _:=HLK.out (k*D+i);have T:Hid _:=q4.out i;have s0:=h.Bv k i;have q5:((k:Int)*(D:Int))=((k*D:Nat):Int):=by push_cast;rfl
    obtain⟨NN,k4⟩:∃NN,NN=k*D+i:=⟨_,rfl⟩
    rw[←k4]at e5 O Q T;have r3:((k*D:Nat):Int)+(i:Int)=(NN:Int):=by rw[k4];push_cast;rfl
    have s4:NN≤20000:=vom;clear hlt k9 k4;generalize k*D=KD at *;generalize h.p NN=y at *;have b9:Hid (xd wr (w.heap.size+1) u (h.fY k i) h):=H;have V:Hid (af wr w.heap.size 35 A0):=C;have l:Hid (Wh w.heap.size w wr):=B;clear H C B;have r4:=bR mo
    go_upto_region 10 with fail
    go_cut [11,12] (fun p z W=>z=.bool y∧∃q us ug,p=.pointer (some ⟨q,0,none⟩)∧af W q 46 #[us,ug]∧kE W us ug h NN∧Wh wr.heap.size wr W)
    case first=>
     refine Xb ?_;refine Wz (S:=fun W=>Wh wr.heap.size wr W) vkr (Wm _ _).drew (fun hS=>?_);obtain⟨Z,hZ⟩:∃x,x=wr.drew:=⟨_,rfl⟩
     rw[←hZ]at hS⊢;clear hZ;refine vuq 0 28 (.func (.func 28) #[] #[.pointer (some ⟨bN,0,none⟩),.pointer (some ⟨bC,0,none⟩)]) ?_;refine vuk 1 29 (.agg A0) rfl (fun W hW=>by have u1:=run_loadVar_row (P:=qf) W w.heap.size 35 35 A0 (0,0) _ (af.below V.out hW (af.lt V.out)) WH rfl (by rw[n4];exact aE);clear hS hW;simp[execOp,Act.eval,Instr.loadAt,Instr.sureAddr,u1]) hS ?_;refine vuq 2 30 (.int .i64 (g0.n:Nat)) ?_;refine vuq 3 31 (.int .i64 (k:Nat)) ?_;refine vuq 4 32 (.int .i64 (D:Nat)) ?_;refine vuk 5 33 (.int .i64 (KD:Nat)) rfl (fun W hW=>by have u1:IntKind.i64.wrap ((KD:Nat):Int)=(KD:Int):=(by rw[IntKind.wrap_i64];omega);clear hS hW;simp[execOp,Act.eval,go_sem,q5,u1]) hS ?_;refine vuq 6 34 (.int .i64 (i:Nat)) ?_;refine vuk 7 35 (.int .i64 (NN:Nat)) rfl (fun W hW=>by have u1:IntKind.i64.wrap ((NN:Nat):Int)=(NN:Int):=(by rw[IntKind.wrap_i64];omega);clear hS hW;simp[execOp,Act.eval,go_sem,r3,u1]) hS ?_;refine wpAnyH_ready (rs:=[8,14]) vkr vsi ?_;refine YX (o:=_) rfl (fun K hK=>?_) (YX (o:=_) rfl (fun K hK=>?_) AllReadyH.nil)
     ·rw[Wc vrf]
      go_simp;refine We (e5.out _) ?_;rintro e Y0 ⟨gw,rfl,G,_,d⟩;refine hK.out _ _ (hS.trans (d.mono hS.size)) (fun hS1=>?_);clear d;clear hK K;clear hS;have hS:=hS1;clear hS1;refine wpAnyH_ready (rs:=[9,14]) vkr vsi ?_;refine YX (o:=_) rfl (fun K hK=>?_) (YX (o:=_) rfl (fun K hK=>?_) AllReadyH.nil)
      ·rw[Wc vrf]
       go_simp;refine We (O.out gw _ (l.out.trans (hS.mono l.out.size)) G) ?_;rintro e Y1 ⟨ma,mb,rfl,f,d⟩;refine hK.out _ _ (hS.trans (d.mono hS.size)) (fun hS1=>?_);have A:Hid _:=Q.out ma mb (.slice (some ⟨gw,0,none⟩) g0.n g0.n);obtain⟨A1,I⟩:∃A1,A1=aP ma mb (.slice (some ⟨gw,0,none⟩) g0.n g0.n) g0.rf g0.pl:=⟨_,rfl⟩
       rw[←I]at f A⊢;clear d G I;clear hK K;clear hS;have hS:=hS1;clear hS1;refine wpAnyH_ready (rs:=[10,14]) vkr vsi ?_;refine YX (o:=_) rfl (fun K hK=>?_) (YX (o:=_) rfl (fun K hK=>?_) AllReadyH.nil)
       ·rw[Wc vrf]
        go_simp;refine We (A.out _ (l.out.trans (hS.mono l.out.size)) f) ?_;rintro e Y2 ⟨us,ug,rfl,m,d⟩;refine hK.out _ _ (hS.trans (d.mono hS.size)) (fun hS1=>?_);clear d f A;clear hK K;clear hS;have hS:=hS1;clear hS1;refine vuq 11 27 (.tuple #[.agg #[us,ug],.bool y]) ?_;refine vuq 12 39 (.agg #[us,ug]) ?_;refine vuq 13 40 (.bool y) ?_;refine rd1 14 rfl (fun K hK=>?_);go_simp;have hq:=af.new Y2 46 #[.slice none 0 0,.slice none 0 0];have F:=hS.size;refine hK.out _ _ (hS.alloc hS.size _) (fun hS1=>?_);have j3:=m.below ((Wm Y2.heap.size Y2).alloc (R3 _) (.cells #[.slice none 0 0,.slice none 0 0] 46));clear m;have m:=j3;clear j3;clear hK K;clear hS;have hS:=hS1;clear hS1;obtain⟨q,E⟩:∃x,x=Y2.heap.size:=⟨_,rfl⟩
        rw[←E]at hq F⊢;generalize Y2.alloc (.cells #[.slice none 0 0,.slice none 0 0] 46)=V3 at *;clear E
        have t:(#[us,ug]:Array R2).all (·.oneCell')=true:=by
         obtain⟨⟨x1,y1,e1⟩,x2,y2,e2⟩:=m.form;rw[e1,e2];simp[ZN]
        refine yN 15 _ vkr rfl vkr 46 (XW 11) (XW 39) rfl q #[us,ug] rfl rfl 46 _ hq dB rfl t rfl (Below.setRow hS q F _) (fun hS1=>?_);have M:=hq.row #[us,ug];have J:=m.set (x:=#[us,ug]) hq;clear hS hq m;have hS:=hS1;clear hS1;refine vuq 16 12 (.bool y) ?_;refine Xq vkr ?_ _;refine WU ?_
        go_wp2_with fail
        go_meet
        exact⟨rfl,q,us,ug,rfl,M,J,hS⟩
       ·rw[Wc vrf]
        go_simp;have hq:=af.new Y1 46 #[.slice none 0 0,.slice none 0 0];have F:=hS.size;refine hK.out _ _ (hS.alloc hS.size _) (fun hS1=>?_);have U:=f.below ((Wm Y1.heap.size Y1).alloc (R3 _) (.cells #[.slice none 0 0,.slice none 0 0] 46));clear f;have f:=U;clear U;clear hK K;clear hS;have hS:=hS1;clear hS1;obtain⟨q,E⟩:∃x,x=Y1.heap.size:=⟨_,rfl⟩
        rw[←E]at hq F⊢;generalize Y1.alloc (.cells #[.slice none 0 0,.slice none 0 0] 46)=V2 at *;clear E;refine rd1 10 rfl (fun K hK=>?_);go_simp;refine We (A.out _ (l.out.trans (hS.mono l.out.size)) f) ?_;rintro e Y2a ⟨us,ug,rfl,m,d⟩;refine hK.out _ _ (hS.trans (d.mono hS.size)) (fun hS1=>?_);have s:=hq.below d hq.lt;clear hq;have hq:=s;clear s;clear d f A;clear hK K;clear hS;have hS:=hS1;clear hS1;refine vuq 11 27 (.tuple #[.agg #[us,ug],.bool y]) ?_;refine vuq 12 39 (.agg #[us,ug]) ?_;refine vuq 13 40 (.bool y) ?_
        have t:(#[us,ug]:Array R2).all (·.oneCell')=true:=by
         obtain⟨⟨x1,y1,e1⟩,x2,y2,e2⟩:=m.form;rw[e1,e2];simp[ZN]
        refine yN 15 _ vkr rfl vkr 46 (XW 11) (XW 39) rfl q #[us,ug] rfl rfl 46 _ hq dB rfl t rfl (Below.setRow hS q F _) (fun hS1=>?_);have M:=hq.row #[us,ug];have J:=m.set (x:=#[us,ug]) hq;clear hS hq m;have hS:=hS1;clear hS1;refine vuq 16 12 (.bool y) ?_;refine Xq vkr ?_ _;refine WU ?_
        go_wp2_with fail
        go_meet
        exact⟨rfl,q,us,ug,rfl,M,J,hS⟩
      ·rw[Wc vrf]
       go_simp;have hq:=af.new Y0 46 #[.slice none 0 0,.slice none 0 0];have F:=hS.size;refine hK.out _ _ (hS.alloc hS.size _) (fun hS1=>?_);have e7:=G.alloc (.cells #[.slice none 0 0,.slice none 0 0] 46);clear G;have G:=e7;clear e7;clear hK K;clear hS;have hS:=hS1;clear hS1;obtain⟨q,E⟩:∃x,x=Y0.heap.size:=⟨_,rfl⟩
       rw[←E]at hq F⊢;generalize Y0.alloc (.cells #[.slice none 0 0,.slice none 0 0] 46)=V1 at *;clear E;refine rd1 9 rfl (fun K hK=>?_);go_simp;refine We (O.out gw _ (l.out.trans (hS.mono l.out.size)) G) ?_;rintro e Y1a ⟨ma,mb,rfl,f,d⟩;refine hK.out _ _ (hS.trans (d.mono hS.size)) (fun hS1=>?_);have A:Hid _:=Q.out ma mb (.slice (some ⟨gw,0,none⟩) g0.n g0.n);obtain⟨A1,I⟩:∃A1,A1=aP ma mb (.slice (some ⟨gw,0,none⟩) g0.n g0.n) g0.rf g0.pl:=⟨_,rfl⟩
       rw[←I]at f A⊢;have s:=hq.below d hq.lt;clear hq;have hq:=s;clear s;clear d G I;clear hK K;clear hS;have hS:=hS1;clear hS1;refine rd1 10 rfl (fun K hK=>?_);go_simp;refine We (A.out _ (l.out.trans (hS.mono l.out.size)) f) ?_;rintro e Y2a ⟨us,ug,rfl,m,d⟩;refine hK.out _ _ (hS.trans (d.mono hS.size)) (fun hS1=>?_);have s:=hq.below d hq.lt;clear hq;have hq:=s;clear s;clear d f A;clear hK K;clear hS;have hS:=hS1;clear hS1;refine vuq 11 27 (.tuple #[.agg #[us,ug],.bool y]) ?_;refine vuq 12 39 (.agg #[us,ug]) ?_;refine vuq 13 40 (.bool y) ?_
       have t:(#[us,ug]:Array R2).all (·.oneCell')=true:=by
        obtain⟨⟨x1,y1,e1⟩,x2,y2,e2⟩:=m.form;rw[e1,e2];simp[ZN]
       refine yN 15 _ vkr rfl vkr 46 (XW 11) (XW 39) rfl q #[us,ug] rfl rfl 46 _ hq dB rfl t rfl (Below.setRow hS q F _) (fun hS1=>?_);have M:=hq.row #[us,ug];have J:=m.set (x:=#[us,ug]) hq;clear hS hq m;have hS:=hS1;clear hS1;refine vuq 16 12 (.bool y) ?_;refine Xq vkr ?_ _;refine WU ?_
       go_wp2_with fail
       go_meet
       exact⟨rfl,q,us,ug,rfl,M,J,hS⟩
     ·rw[Wc vrf]
      go_simp;have hq:=af.new Z 46 #[.slice none 0 0,.slice none 0 0];have F:=hS.size;refine hK.out _ _ (hS.alloc hS.size _) (fun hS1=>?_);clear hK K;clear hS;have hS:=hS1;clear hS1;obtain⟨q,E⟩:∃x,x=Z.heap.size:=⟨_,rfl⟩
      rw[←E]at hq F⊢;generalize Z.alloc (.cells #[.slice none 0 0,.slice none 0 0] 46)=V0 at *;clear E;refine rd1 8 rfl (fun K hK=>?_);go_simp;refine We (e5.out _) ?_;rintro e Y0a ⟨gw,rfl,G,_,d⟩;refine hK.out _ _ (hS.trans (d.mono hS.size)) (fun hS1=>?_);have s:=hq.below d hq.lt;clear hq;have hq:=s;clear s;clear d;clear hK K;clear hS;have hS:=hS1;clear hS1;refine rd1 9 rfl (fun K hK=>?_);go_simp;refine We (O.out gw _ (l.out.trans (hS.mono l.out.size)) G) ?_;rintro e Y1a ⟨ma,mb,rfl,f,d⟩;refine hK.out _ _ (hS.trans (d.mono hS.size)) (fun hS1=>?_);have A:Hid _:=Q.out ma mb (.slice (some ⟨gw,0,none⟩) g0.n g0.n);obtain⟨A1,I⟩:∃A1,A1=aP ma mb (.slice (some ⟨gw,0,none⟩) g0.n g0.n) g0.rf g0.pl:=⟨_,rfl⟩
      rw[←I]at f A⊢;have s:=hq.below d hq.lt;clear hq;have hq:=s;clear s;clear d G I;clear hK K;clear hS;have hS:=hS1;clear hS1;refine rd1 10 rfl (fun K hK=>?_);go_simp;refine We (A.out _ (l.out.trans (hS.mono l.out.size)) f) ?_;rintro e Y2a ⟨us,ug,rfl,m,d⟩;refine hK.out _ _ (hS.trans (d.mono hS.size)) (fun hS1=>?_);have s:=hq.below d hq.lt;clear hq;have hq:=s;clear s;clear d f A;clear hK K;clear hS;have hS:=hS1;clear hS1;refine vuq 11 27 (.tuple #[.agg #[us,ug],.bool y]) ?_;refine vuq 12 39 (.agg #[us,ug]) ?_;refine vuq 13 40 (.bool y) ?_
      have t:(#[us,ug]:Array R2).all (·.oneCell')=true:=by
       obtain⟨⟨x1,y1,e1⟩,x2,y2,e2⟩:=m.form;rw[e1,e2];simp[ZN]
      refine yN 15 _ vkr rfl vkr 46 (XW 11) (XW 39) rfl q #[us,ug] rfl rfl 46 _ hq dB rfl t rfl (Below.setRow hS q F _) (fun hS1=>?_);have M:=hq.row #[us,ug];have J:=m.set (x:=#[us,ug]) hq;clear hS hq m;have hS:=hS1;clear hS1;refine vuq 16 12 (.bool y) ?_;refine Xq vkr ?_ _;refine WU ?_
      go_wp2_with fail
      go_meet
      exact⟨rfl,q,us,ug,rfl,M,J,hS⟩
    case rest=>
     obtain⟨rfl,q,us,ug,rfl,hq,e9,e6⟩:=hcut;have H:=xd.below b9.out e6;have HR:Hid (af wc w.heap.size 35 A0):=af.below V.out e6 (af.lt V.out);have HB:Hid (Wh w.heap.size w wc):=l.out.trans (e6.mono l.out.size);have HH:Hid (kE wc us ug h NN):=e9;have s5:=HB.out.size;have hrl:=af.lt HR.out;clear e5 O Q r4 e6 b9 V l e9;cases y
     ·have Y:Hid (h.fY k (i+1)=h.fY k i):=by
       have:=T.out;simp at this;exact this
      have r8:Hid _:=H;clear T H hq;go_wp2;go_roundw
      case rel=>exact⟨i+1,u,L.out,by go_num,by first|rfl|trivial,by rw[Y.out];exact r8.out,HR.out,HB.out⟩
      case measure=>have:=L.out;simp[intOf];omega
     ·have Y:Hid (h.fY k (i+1)=h.fY k i++[NN]):=by
       have:=T.out;simp at this;exact this
      obtain⟨vs,j0,hvs⟩:=H;have r7:Hid _:=hvs
      have t:∀u∈([us,ug]:List R2),u.oneCell'=true:=by
       obtain⟨⟨x1,y1,e1⟩,x2,y2,e2⟩:=HH.out.form;intro u hu;simp at hu;rcases hu with rfl|rfl
       ·rw[e1];rfl
       ·rw[e2];rfl
      clear T hvs
      go_wp2_with (first|refine Wn rfl 46 _ rfl q rfl 46 #[us,ug] (0,0) _ hq Tryz.underlying46 rfl dB ?_|refine vh rfl 41 46 _ rfl 2 #[.slice none 0 0,.slice none 0 0] #[us,ug] rfl vde vde Tryz.underlying41 rfl rfl Ij ?_|(at_builtin;refine wpList_append_own _ rfl _ _ 41 rfl (w.heap.size+1) 46 i0 (.agg #[.slice none 0 0,.slice none 0 0]) 2 48 Tryz.underlying41 q2 q9 q3 r6 rfl vde _ _ _ rfl (Xp j0 _) ⟨wc.heap.size,0,none⟩ 1 1 [us,ug] rfl rfl (cell_two_new _ _ _ _) t (by unfold maxLen;omega) vom vso ?_;intro v' w1 hown' hgrow _))
      go_roundw
      case rel=>
       have k3:=Xp j0 (.cells #[us,ug] 46);have p7:Wh wc.heap.size wc (wc.alloc (.cells #[us,ug] 46)):=(Wm _ _).alloc (R3 _) _;refine⟨i+1,v',L.out,by go_num,by first|rfl|trivial,?_,?_,?_⟩
       ·rw[Y.out]
        refine xd.more k3 (fun kk N e=>?_) (HH.out.below p7) hown' hgrow;obtain⟨x1,x2,e1,e2,e3⟩:=r7.out kk N e;exact⟨x1,x2,e1,e2,e3.below p7⟩
       ·refine(hgrow.block w.heap.size vso fun e=>?_).trans (af.alloc HR.out _)
        have:=(WC k3 _ e.symm).1;omega
       ·exact(HB.out.alloc HB.out.size _).grown hgrow vso (fun p hp=>by have:=(WC k3 p hp).1;omega)
      case measure=>have:=L.out;simp[intOf];omega
end
end Go.Proofs.YtpcnpkhgjanamaaGreatDoor
