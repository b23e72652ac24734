import Derived.Test.YtpcnpkhgjanamaaGreatDoorPz
import Derived.Test.YtpcnpkhgjanamaaGreatDoorJn37
namespace Go.Proofs.YtpcnpkhgjanamaaGreatDoor
open Go.Proofs.Tryz renaming prog→qf,underlying33→Wp
open Go renaming Value→R2,World→V8
open Go.RowKit renaming Below→Wh
open Go.RowKit.Below renaming refl→Wm
open Go.World.ownsRow renaming lt→WC,alloc→Xp
set_option maxRecDepth 100000
set_option maxHeartbeats 8000000
section
open Go.RowKit PK Vg
theorem Bg(x:Nat)(hx:x<26)(w:V8):Calls qf 53 #[.int .u8 ((x:Int)+65)] w fun e w'=>e=.returned (.int .i64 (x:Nat))∧Wh w.heap.size w w':=by
 have h1:(x:Int)<26:=vom;go_enter Tryz.func53,Tryz.ntmps53;go_wp2;go_ret;exact⟨rfl,Wm _ _⟩
def D6(l:List (Nat×Nat)):List R2:=l.flatMap fun p=>[.int .i64 (p.1:Nat),.int .i64 (p.2:Nat)]
theorem JB(l:List (Nat×Nat))(q:Nat×Nat):D6 (l++[q])=D6 l++[.int .i64 (q.1:Nat),.int .i64 (q.2:Nat)]:=by simp[D6]
theorem K1:∀(l:List (Nat×Nat)) (k:Nat),k<l.length→(D6 l)[k*2]?=some (.int .i64 ((l.getD k (0,0)).1:Nat))∧(D6 l)[k*2+1]?=some (.int .i64 ((l.getD k (0,0)).2:Nat))
 |[],k,h=>by simp at h
 |p :: l,0,_=>⟨rfl,rfl⟩
 |p :: l,k+1,h=>by
  have ih:=K1 l k (by simpa using h);show([_,_]++D6 l)[(k+1)*2]?=_∧([_,_]++D6 l)[(k+1)*2+1]?=_;rw[WQ vso,WQ vso];have e1:(k+1)*2-[Value.int .i64 (p.1:Nat),Value.int .i64 (p.2:Nat)].length=k*2:=vso;have e2:(k+1)*2+1-[Value.int .i64 (p.1:Nat),Value.int .i64 (p.2:Nat)].length=k*2+1:=vso;rw[e1,e2];simpa using ih
def nC(w:V8)(v:R2)(l:List (Nat×Nat)):Prop:=∃(a:Option Addr) (cap:Nat),v=.slice a l.length cap∧∀c,c<l.length→∃b,a=some ⟨b,0,none⟩∧w.cell? ⟨b,c*2,none⟩=some (.int .i64 ((l.getD c (0,0)).1:Nat))∧w.cell? ⟨b,c*2+1,none⟩=some (.int .i64 ((l.getD c (0,0)).2:Nat))
theorem nC.below{w w':V8}{v:R2}{l:List (Nat×Nat)}(h:nC w v l)(hb:Wh w.heap.size w w'):nC w' v l:=by
 obtain⟨a,cap,h1,h3⟩:=h;refine⟨a,cap,h1,fun c hc=>?_⟩;obtain⟨b,e,x,y⟩:=h3 c hc;exact⟨b,e,(hb.cell (p:=⟨b,c*2,none⟩) (aA x)).trans x,(hb.cell (p:=⟨b,c*2+1,none⟩) (aA y)).trans y⟩
theorem Bq:(qf.info? 107).map (fun i=>(i.zero,i.size,i.bytes))=some (some (.agg #[.int .i64 0,.int .i64 0]),2,16):=vkr
theorem Ap:(qf.info? 104).map (·.zero)=some (some (.agg (bJ 26 fun _=>.slice none 0 0))):=vkr
structure wZ(W:V8)(G:Nat)(vals:Nat→R2)(L:Nat→List (Nat×Nat)):Prop where
 row:af W G 104 (bJ 26 vals)
 own:∀c,c<26→W.ownsRow (G+1) 107 2 (vals c) (L c).length (D6 (L c))
 apart:∀c d,c<26→d<26→c≠d→(vals c).ownBlock=none∨(vals c).ownBlock≠(vals d).ownBlock
theorem wZ.below{W W':V8}{G:Nat}{vals:Nat→R2}{L:Nat→List (Nat×Nat)}(h:wZ W G vals L)(hb:Wh W.heap.size W W'):wZ W' G vals L:=⟨h.row.below hb h.row.lt,fun c hc=>mh (h.own c hc) hb,h.apart⟩
theorem wZ.alloc{W:V8}{G:Nat}{vals:Nat→R2}{L:Nat→List (Nat×Nat)}(h:wZ W G vals L)(o:Obj):wZ (W.alloc o) G vals L:=h.below ((Wm _ _).alloc (R3 _) o)
theorem wZ.drew{W:V8}{G:Nat}{vals:Nat→R2}{L:Nat→List (Nat×Nat)}(h:wZ W G vals L):wZ W.drew G vals L:=⟨h.row,fun c hc=>LM (h.own c hc),h.apart⟩
def tu(L:Nat→List (Nat×Nat))(c:Nat)(q:Nat×Nat):Nat→List (Nat×Nat):=fun x=>if x=c then L x++[q]else L x
theorem wZ.step{W W5:V8}{G c:Nat}{vals:Nat→R2}{L:Nat→List (Nat×Nat)}{v':R2}(h:wZ W G vals L)(hc:c<26)(q:Nat×Nat)
  (hown:W5.ownsRow (G+1) 107 2 v' ((L c).length+1) (D6 (L c)++[.int .i64 (q.1:Nat),.int .i64 (q.2:Nat)]))
  (hg:W.grownBy W5 (vals c).ownBlock) (hat:v'.ownBlock=(vals c).ownBlock∨v'.ownBlock=some W.heap.size) :
  wZ (W5.setCell ⟨G,c,none⟩ v') G (upd vals c v') (tu L c q):=by
 have d:∀r,r<26→∀g,(vals r).ownBlock=some g→G+1≤g∧g<W.heap.size:=fun r hr g e=>WC (h.own r hr) g e;have b:af W5 G 104 (bJ 26 vals):=(hg.block G h.row.lt (fun e=>by have:=(d c hc G e.symm).1;omega)).trans h.row;have a:∀(v:R2) (n:Nat) (l:List R2),W5.ownsRow (G+1) 107 2 v n l→(W5.setCell ⟨G,c,none⟩ v').ownsRow (G+1) 107 2 v n l:=fun v n l ho=>World.ownsRow.kept ho (jD W5 G c v') (.inr fun e=>by have:=(WC ho _ e).1;omega);refine⟨?_,fun r hr=>?_,fun r r' hr hr' hne=>?_⟩
 ·have:=b.set c v'
  rw[dY]at this;exact this
 ·unfold tu
  by_cases e:r=c
  ·rw[e,upd_same,Wc rfl,WM,JB]
   exact a _ _ _ hown
  ·rw[cH _ _ e,V9 e]
   exact a _ _ _ (World.ownsRow.kept (h.own r hr) hg (h.apart r c hr hc e))
 ·by_cases e:r=c
  ·subst e
   rw[upd_same,cH _ _ (Ne.symm hne)];rcases hat with hat|hat
   ·rw[hat];exact h.apart r r' hr hr' hne
   ·right
    rw[hat];intro e2;have:=(d r' hr' _ e2.symm).2;omega
  ·rw[cH _ _ e]
   by_cases e2:r'=c
   ·subst e2
    rw[upd_same];rcases hat with hat|hat
    ·rw[hat];exact h.apart r r' hr hr' hne
    ·right
     rw[hat];intro e3;have:=(d r hr _ e3).2;omega
   ·rw[cH _ _ e2];exact h.apart r r' hr hr' hne
theorem Rr(m:Bo.Mn)(i:Nat):tu (tu (fun c=>Bo.ml m c i) (m.x i) (i,m.y i)) (m.y i) (i,m.x i)=fun c=>Bo.ml m c (i+1):=YP fun c=>by
 unfold tu;show _=(Bo.ml m c i++if m.x i=c then[(i,m.y i)]else[])++if m.y i=c then[(i,m.x i)]else[]
 by_cases e1:c=m.x i<;>by_cases e2:c=m.y i
 ·rw[Wc e2,Wc e1,Wc e1.symm,Wc e2.symm]
 ·rw[V9 e2,Wc e1,Wc e1.symm,V9 (fun h=>e2 h.symm),List.append_nil]
 ·rw[Wc e2,V9 e1,V9 (fun h=>e1 h.symm),Wc e2.symm,List.append_nil]
 ·rw[V9 e2,V9 e1,V9 (fun h=>e1 h.symm),V9 (fun h=>e2 h.symm),List.append_nil,List.append_nil]
theorem mY{w:V8}{B:Nat}{e:TypeId}{s:Nat}{v:R2}{n:Nat}{xs:List R2}(h:w.ownsRow B e s v n xs):∃a c,v=.slice a n c:=by
 rcases h.2 with⟨rfl,h0⟩|⟨g',cap,cur,rfl,_⟩
 ·exact⟨none,0,by rw[h0]⟩
 ·exact⟨_,_,rfl⟩
structure JK(m:Bo.Mn)(cr te:ByteArray):Prop where
 k:m.k=cr.size
 le:cr.size≤32
 sz:te.size=cr.size
 x:∀i,i<m.k→m.x i<26∧∀h:i<cr.size,(cr[i].toNat:Int)=(m.x i:Int)+65
 y:∀i,i<m.k→m.y i<26∧∀h:i<te.size,(te[i].toNat:Int)=(m.y i:Int)+65
theorem C3(m:Bo.Mn)(cr te:ByteArray)(hm:JK m cr te)(w:V8):Calls qf 26 #[.string cr,.string te] w fun e w'=>∃vals,e=.returned (.pointer (some ⟨w.heap.size,0,none⟩))∧wZ w' w.heap.size vals (fun c=>Bo.ml m c m.k)∧Wh w.heap.size w w':=by
 obtain⟨i0,H,V,I,e3⟩:=ig Bq;obtain⟨hk,k8,k9,hx,hy⟩:=hm;have HX:Hid _:=hx;have HY:Hid _:=hy;have k5:=bR Ap;have E:wZ (w.alloc (.cells (bJ 26 fun _=>.slice none 0 0) 104)) w.heap.size (fun _=>.slice none 0 0) (fun c=>Bo.ml m c 0):=⟨af.new w _ _,fun c _=>World.ownsRow_nil _ _ _ _,fun _ _ _ _ _=>.inl rfl⟩
 have e5:Wh w.heap.size w (w.alloc (.cells (bJ 26 fun _=>.slice none 0 0) 104)):=(Wm _ _).alloc (R3 _) _;clear hx hy;go_enter Tryz.func26,Tryz.ntmps26
 go_upto_region 2 with fail
 generalize w.alloc (.cells (bJ 26 fun _=>.slice none 0 0) 104)=W0 at *;clear k5
 go_wp2_with fail
 go_loopw [11] (fun x W=>∃(i:Nat) (vals:Nat→R2),i≤cr.size∧x=.int .i64 (i:Nat)∧wZ W w.heap.size vals (fun c=>Bo.ml m c i)∧Wh w.heap.size w W) (fun x _=>((cr.size:Int)-intOf x).toNat)
 case atStart=>exact⟨0,_,vom,rfl,E,e5⟩
 case round=>
  clear E e5;obtain⟨i,vals,hi,rfl,d,n⟩:=hrel;by_cases hlt:i<cr.size
  case neg=>
   obtain rfl:i=cr.size:=vom;have k6:¬((cr.size:Nat):Int)<((cr.size:Nat):Int):=vom;have k3:Hid _:=d;have k4:Hid _:=n;have HK:Hid _:=hk;clear d n hlt hk;go_wp2;go_ret;exact⟨rfl,⟨vals,by rw[HK.out];exact k3.out⟩,k4.out⟩
  have N:Hid (i<cr.size):=hlt;have j0:(i:Int)<(cr.size:Int):=vom;have j3:(i:Int)<(te.size:Int):=vom;obtain⟨Q,e4⟩:=HX.out i vom;obtain⟨P,e9⟩:=HY.out i vom;have ea:=e4 hlt;have eb:=e9 vom;have j:Hid (tu (tu (fun c=>Bo.ml m c i) (m.x i) (i,m.y i)) (m.y i) (i,m.x i)=fun c=>Bo.ml m c (i+1)):=Rr m i;have e8:Hid (∀c,(Bo.ml m c i).length≤64):=fun c=>by have:=Bo.CY m c i;omega
  obtain⟨x,hx⟩:∃x,x=m.x i:=⟨_,rfl⟩
  obtain⟨y,hy⟩:∃y,y=m.y i:=⟨_,rfl⟩
  rw[←hx]at Q ea j;rw[←hy]at P eb j;obtain⟨L,hL⟩:∃L,L=fun c=>Bo.ml m c i:=⟨_,rfl⟩
  have D:Hid (∀c,(L c).length≤64):=by rw[hL];exact e8.out
  rw[←hL]at d j;clear e4 e9 hx hy hL e8 hk
  go_upto_region 5 with fail
  have J:wZ wr.drew w.heap.size vals L∧Wh w.heap.size w wr.drew:=⟨d.drew,n.drew⟩
  clear d n;refine Xb ?_;refine Wz (S:=fun W=>wZ W w.heap.size vals L∧Wh w.heap.size w W) vkr J (fun hS=>?_);clear J;obtain⟨U,hU⟩:∃x,x=wr.drew:=⟨_,rfl⟩
  rw[←hU]at hS⊢;clear hU;refine vuq 0 14 (.string cr) ?_;refine vuq 1 15 (.int .i64 (i:Nat)) ?_;refine vuq 2 16 (.int .u8 ((x:Int)+65)) ?_;refine vuq 4 18 (.string te) ?_;refine vuq 5 19 (.int .i64 (i:Nat)) ?_;refine vuq 6 20 (.int .u8 ((y:Int)+65)) ?_;refine rd1 3 rfl (fun K hK=>?_);go_simp;refine We (Bg x Q _) ?_;rintro e Y ⟨rfl,O⟩;refine hK.out _ _ (⟨hS.1.below O,hS.2.trans (O.mono hS.2.size)⟩) (fun hS1=>?_);clear hK hS K;have hS:=hS1;clear hS1;refine rd1 7 rfl (fun K hK=>?_);go_simp;refine We (Bg y P _) ?_;rintro e Y ⟨rfl,F⟩;refine hK.out _ _ (⟨hS.1.below F,hS.2.trans (F.mono hS.2.size)⟩) (fun hS1=>?_);clear hK hS K;have hS:=hS1;clear hS1;refine vuq 8 7 (.int .i64 (x:Nat)) ?_;refine vuq 9 8 (.int .i64 (y:Nat)) ?_;refine Xq vkr ?_ _;refine WU ?_;obtain⟨d,n⟩:=hS;clear ea eb j0 j3;have k7:(x:Int)<26:=vom;have l5:(y:Int)<26:=vom;have b9:=d.row.lt;have z:Hid (∀c,(L c).length≤66):=fun c=>by have:=D.out c;omega
  have a:Hid (x<26):=by rw[Hid];omega
  have s:=d.row.cell (aM vals a.out);have b:=d.own x a.out;have q:Hid ((L x).length≤66):=z.out x;have t:Hid ((vals x).ownBlock≠some w.heap.size):=fun e=>by have:=(WC b _ e).1;omega
  have A:Hid (∀g,(vals x).ownBlock=some g→w.heap.size≤g):=fun g e=>by have:=(WC b g e).1;omega
  have h:Hid (∀(W5:V8) (v':R2),W5.ownsRow (w.heap.size+1) 107 2 v' ((L x).length+1) (D6 (L x)++[.int .i64 (i:Nat),.int .i64 (y:Nat)])→(Y.alloc (.cells #[.int .i64 (i:Nat),.int .i64 (y:Nat)] 107)).grownBy W5 (vals x).ownBlock→(v'.ownBlock=(vals x).ownBlock∨v'.ownBlock=some (Y.alloc (.cells #[.int .i64 (i:Nat),.int .i64 (y:Nat)] 107)).heap.size)→wZ (W5.setCell ⟨w.heap.size,x,none⟩ v') w.heap.size (upd vals x v') (tu L x (i,y))):=fun W5 v' q1' q2' q3'=>(d.alloc _).step a.out (i,y) q1' q2' q3'
  go_upto_region 7 with(first|(at_builtin;refine wpList_append_own_at _ rfl _ _ 102 rfl (w.heap.size+1) 107 i0 (.agg #[.int .i64 0,.int .i64 0]) 2 16 Tryz.underlying102 H V I e3 rfl vde _ _ _ rfl (Xp b _) ⟨Y.heap.size,0,none⟩ 1 1 [.int .i64 (i:Nat),.int .i64 (y:Nat)] rfl rfl (cell_two_new _ _ _ _) (fun u hu=>by simp at hu;rcases hu with rfl|rfl<;>rfl) (by have:=q.out;unfold maxLen;omega) (by have:=q.out;omega) vso ?_;intro v5 w5 hown5 hgrow5 _ hat5;obtain⟨g5,c5,rfl⟩:=mY hown5;have ro5:=(hgrow5.block w.heap.size vso (fun e=>t.out e.symm)).trans (d.row.alloc (.cells #[.int .i64 (i:Nat),.int .i64 (y:Nat)] 107));have o:=af.cell (T:=104) ro5 (aM vals a.out);have B:=af.frozen (T:=104) ro5 x))
  have f:=h.out _ _ hown5 hgrow5 hat5;have M:Wh w.heap.size w (w5.setCell ⟨w.heap.size,x,none⟩ (.slice g5 ((L x).length+1) c5)):=((n.alloc vom _).grown hgrow5 vso A.out).setCell vsi _
  have G:Hid (∀c,(tu L x (i,y) c).length≤65):=fun c=>by
   have:=D.out c;unfold tu;by_cases e:c=x
   ·rw[Wc e];simp;omega
   ·rw[V9 e];omega
  generalize w5.setCell ⟨w.heap.size,x,none⟩ (.slice g5 ((L x).length+1) c5)=Z at *;generalize upd vals x (.slice g5 ((L x).length+1) c5)=vals6 at *;obtain⟨L6,e6⟩:∃l,l=tu L x (i,y):=⟨_,rfl⟩
  rw[←e6]at f j G;clear e6 D h A t q b s d n hown5 hgrow5 hat5 ro5 o B a z b9;obtain⟨vals,hv6⟩:∃v,v=vals6:=⟨_,rfl⟩
  rw[←hv6]at f;clear hv6 vals6;have b9:=f.row.lt;have z:Hid (∀c,(L6 c).length≤66):=fun c=>by have:=G.out c;omega
  have a:Hid (y<26):=by rw[Hid];omega
  have s:=f.row.cell (aM vals a.out);have b:=f.own y a.out;have q:Hid ((L6 y).length≤66):=z.out y;have t:Hid ((vals y).ownBlock≠some w.heap.size):=fun e=>by have:=(WC b _ e).1;omega
  have A:Hid (∀g,(vals y).ownBlock=some g→w.heap.size≤g):=fun g e=>by have:=(WC b g e).1;omega
  have h:Hid (∀(W5:V8) (v':R2),W5.ownsRow (w.heap.size+1) 107 2 v' ((L6 y).length+1) (D6 (L6 y)++[.int .i64 (i:Nat),.int .i64 (x:Nat)])→(Z.alloc (.cells #[.int .i64 (i:Nat),.int .i64 (x:Nat)] 107)).grownBy W5 (vals y).ownBlock→(v'.ownBlock=(vals y).ownBlock∨v'.ownBlock=some (Z.alloc (.cells #[.int .i64 (i:Nat),.int .i64 (x:Nat)] 107)).heap.size)→wZ (W5.setCell ⟨w.heap.size,y,none⟩ v') w.heap.size (upd vals y v') (tu L6 y (i,x))):=fun W5 v' q1' q2' q3'=>(f.alloc _).step a.out (i,x) q1' q2' q3'
  go_wp2_with (first|(at_builtin;refine wpList_append_own_at _ rfl _ _ 102 rfl (w.heap.size+1) 107 i0 (.agg #[.int .i64 0,.int .i64 0]) 2 16 Tryz.underlying102 H V I e3 rfl vde _ _ _ rfl (Xp b _) ⟨Z.heap.size,0,none⟩ 1 1 [.int .i64 (i:Nat),.int .i64 (x:Nat)] rfl rfl (cell_two_new _ _ _ _) (fun u hu=>by simp at hu;rcases hu with rfl|rfl<;>rfl) (by have:=q.out;unfold maxLen;omega) (by have:=q.out;omega) vso ?_;intro v5 w5 hown5 hgrow5 _ hat5;obtain⟨g5,c5,rfl⟩:=mY hown5;have ro5:=(hgrow5.block w.heap.size vso (fun e=>t.out e.symm)).trans (f.row.alloc (.cells #[.int .i64 (i:Nat),.int .i64 (x:Nat)] 107));have o:=af.cell (T:=104) ro5 (aM vals a.out);have B:=af.frozen (T:=104) ro5 y))
  have C:=h.out _ _ hown5 hgrow5 hat5;have e7:Wh w.heap.size w (w5.setCell ⟨w.heap.size,y,none⟩ (.slice g5 ((L6 y).length+1) c5)):=((M.alloc vom _).grown hgrow5 vso A.out).setCell vsi _;rw[j.out]at C;go_roundw
  case rel=>exact⟨i+1,_,N.out,by go_num,C,e7⟩
  case measure=>have:=N.out;simp[intOf];omega
def vt(W:V8)(G:Nat)(L:Nat→List (Nat×Nat)):Prop:=∃vals:Nat→R2,(∀c,c<26→W.cell? ⟨G,c,none⟩=some (vals c))∧∀c,c<26→nC W (vals c) (L c)
theorem vt.below{W W':V8}{G:Nat}{L:Nat→List (Nat×Nat)}(h:vt W G L)(hb:Wh W.heap.size W W'):vt W' G L:=by
 obtain⟨vals,h1,h2⟩:=h;exact⟨vals,fun c hc=>(hb.cell (aA (h1 c hc))).trans (h1 c hc),fun c hc=>(h2 c hc).below hb⟩
theorem zQ(f:Nat→Nat){k:Nat}(hk:k<26):Bo.most f k<26:=by
 rcases Bo.yW f k with h|h<;>omega
theorem Hf(G:Nat)(L:Nat→List (Nat×Nat))(w:V8)(hm:vt w G L):Calls qf 58 #[.pointer (some ⟨G,0,none⟩)] w fun e w'=>e=.returned (.int .i64 (Bo.most (fun c=>(L c).length) 26:Nat))∧Wh w.heap.size w w':=by
 obtain⟨vals,a,n⟩:=hm;have l:Hid _:=n;clear n;obtain⟨f,hf⟩:∃f,f=fun c=>(L c).length:=⟨_,rfl⟩
 have HF:Hid (∀c,f c=(L c).length):=by rw[hf];exact fun c=>rfl
 rw[←hf];clear hf;have m:Hid (∀k,Bo.most f (k+1)=if f (Bo.most f k)<f k then k else Bo.most f k):=fun k=>rfl;have i:Hid (∀k,k<26→Bo.most f k<26):=fun k hk=>zQ f hk;go_enter Tryz.func58,Tryz.ntmps58
 go_wp2_with fail
 go_loopw [3,5] (fun o x W=>∃k:Nat,k≤26∧x=.int .i64 (k:Nat)∧o=.int .i64 (Bo.most f k:Nat)∧Wh w.heap.size w W) (fun _ x _=>((26:Int)-intOf x).toNat)
 case atStart=>exact⟨0,vom,rfl,rfl,Wm _ _⟩
 case round=>
  obtain⟨k,hk,rfl,rfl,b⟩:=hrel;by_cases hlt:k<26
  ·have d:Hid (k<26):=hlt
   have q:(k:Int)<26:=vom;have h:=i.out k hlt;have hs:=m.out k;obtain⟨o,ho⟩:∃o,o=Bo.most f k:=⟨_,rfl⟩
   rw[←ho]at h hs⊢;have s:(o:Int)<26:=vom;obtain⟨a1,c1,e1,_⟩:=l.out k hlt;obtain⟨a2,c2,e2,_⟩:=l.out o h;rw[←HF.out]at e1 e2;have d1:=(b.cell (aA (a k hlt))).trans (a k hlt);have d2:=(b.cell (aA (a o h))).trans (a o h);rw[e1]at d1;rw[e2]at d2;have g:Hid _:=b;clear hlt ho e1 e2 b;generalize f k=x at *;generalize f o=y at *;by_cases hxy:y<x
   ·have j:(y:Int)<(x:Int):=vom
    have HM:Hid (Bo.most f (k+1)=k):=by rw[Hid,hs,Wc hxy]
    clear hs hxy
    go_upto_region 5 with fail
    go_quiet (fail)
    go_wp2;go_roundw
    case rel=>exact⟨k+1,d.out,by go_num,by rw[HM.out],g.out.trans ⟨rfl,rfl,rfl,R3 _,fun _ _=>rfl⟩⟩
    case measure=>have:=d.out;simp[intOf];omega
   ·have j:¬(y:Int)<(x:Int):=vom
    have HM:Hid (Bo.most f (k+1)=o):=by rw[Hid,hs,V9 hxy]
    clear hs hxy
    go_upto_region 5 with fail
    go_quiet (fail)
    go_wp2;go_roundw
    case rel=>exact⟨k+1,d.out,by go_num,by rw[HM.out],g.out.trans ⟨rfl,rfl,rfl,R3 _,fun _ _=>rfl⟩⟩
    case measure=>have:=d.out;simp[intOf];omega
  ·obtain rfl:k=26:=vom
   have g:Hid _:=b;clear hlt b;go_wp2;go_ret;exact⟨rfl,g.out⟩
structure wN(w W:V8)(q:Nat)(p:Nat→Int)(s:Nat→Nat)(n:Nat):Prop where
 res:af W w.heap.size 33 (ints 26 fun _=>0)
 bd:rG W q p s n
 below:Wh w.heap.size w W
 q1:w.heap.size<q
section
variable{w W W':V8}{q:Nat}{p p':Nat→Int}{s s':Nat→Nat}{n n':Nat}
theorem wN.step(h:wN w W q p s n)(hb:Wh W.heap.size W W'):wN w W' q p s n:=⟨h.res.below hb h.res.lt,af.below h.bd hb (af.lt h.bd),h.below.trans (hb.mono h.below.size),h.q1⟩
theorem wN.alloc(h:wN w W q p s n)(o:Obj):wN w (W.alloc o) q p s n:=h.step ((Wm _ _).alloc (R3 _) o)
theorem wN.grown(h:wN w W q p s n)(hg:W.grownBy W' (some q))(hb:rG W' q p' s' n'):wN w W' q p' s' n':=by
 have h1:=h.q1;exact⟨(hg.block _ h.res.lt (fun e=>by cases e;omega)).trans h.res,hb,h.below.grown hg h.below.size (fun k hk=>by cases hk;omega),h1⟩
theorem wN.drew(h:wN w W q p s n):wN w W.drew q p s n:=⟨h.res,h.bd,h.below.drew,h.q1⟩
end
theorem JI{W:V8}{q:Nat}{p:Nat→Int}{s:Nat→Nat}{n:Nat}(h:rG W q p s n):W.rangeAt q 0 (ints 26 p).toList:=ja (T:=166) h _ _ fun i v hv=>by
 obtain⟨h1,rfl⟩:=oZ hv;rw[WN,aB _ vom,Pk _ _ _ h1]
structure Way(m:Bo.Mn)(a b:Nat)(p0:Nat→Int)(s0:Nat→Nat)(n0:Nat)(x y:Nat)(l:List (Nat×Nat))(j:Nat)(p:Nat→Int)(s:Nat→Nat)(n:Nat):Prop where
 said:Bo.qT m a b p s n
 ext:Bo.Ext p0 p
 same:∀i,i<n0→s i=s0 i
 le:n0≤n
 xy:p x=(y:Nat)
 yx:p y=(x:Nat)
 links:∀i,i<j→p (l.getD i (0,0)).2=(m.s (l.getD i (0,0)).1 y:Nat)
theorem Way.put{m:Bo.Mn}{a b:Nat}{p0:Nat→Int}{s0:Nat→Nat}{n0 x y:Nat}{l:List (Nat×Nat)}{j:Nat}{p:Nat→Int}{s:Nat→Nat}{n:Nat}(h:Way m a b p0 s0 n0 x y l j p s n){u v:Nat}(hu:u<26)(hv:v<26)(hp:p u=-1)(hd:Bo.nP m a b u v)(he:(l.getD j (0,0)).2=u)(hs:m.s (l.getD j (0,0)).1 y=v):Way m a b p0 s0 n0 x y l (j+1) (upd p u (v:Nat)) (fun i=>if i=n then u else s i) (n+1):=by
 have hx:=Bo.Ext.put (p:=p) (x:=u) ((v:Nat):Int) hp;refine⟨h.said.put hu hv hp hd,h.ext.trans hx,fun i hi=>?_,by have:=h.le;omega,hx _ _ h.xy,hx _ _ h.yx,fun i hi=>?_⟩
 ·show(if i=n then u else s i)=s0 i
  rw[V9 (by have:=h.le;omega)];exact h.same i hi
 ·by_cases e:i=j
  ·rw[e,he,hs]
   unfold upd;rw[Wc rfl]
  ·exact hx _ _ (h.links i vom)
theorem Way.keep{m:Bo.Mn}{a b:Nat}{p0:Nat→Int}{s0:Nat→Nat}{n0 x y:Nat}{l:List (Nat×Nat)}{j:Nat}{p:Nat→Int}{s:Nat→Nat}{n:Nat}(h:Way m a b p0 s0 n0 x y l j p s n){u v:Nat}(hp:p u=(v:Nat))(he:(l.getD j (0,0)).2=u)(hs:m.s (l.getD j (0,0)).1 y=v):Way m a b p0 s0 n0 x y l (j+1) p s n:=by
 refine⟨h.said,h.ext,h.same,h.le,h.xy,h.yx,fun i hi=>?_⟩;by_cases e:i=j
 ·rw[e,he,hs];exact hp
 ·exact h.links i vom
theorem Way.done{m:Bo.Mn}{a b:Nat}{p0:Nat→Int}{s0:Nat→Nat}{n0 x y:Nat}{j:Nat}{p:Nat→Int}{s:Nat→Nat}{n:Nat}(h:Way m a b p0 s0 n0 x y (Bo.ml m x m.k) j p s n)(hj:j=(Bo.ml m x m.k).length):Bo.Done m p x:=by
 refine⟨y,h.xy,h.yx,fun r hr=>?_⟩;obtain⟨i,hi,e⟩:=YB.1 hr;have:=h.links i vom;rw[Xu,Wu hi,e]at this;exact this
theorem A6{l:List (Nat×Nat)}{j:Nat}(h:j<l.length):l.getD j (0,0)∈l:=by
 rw[Xu,Wu h];exact List.getElem_mem h
theorem L4{m:Bo.Mn}(hm:m.Ok){a b:Nat}(ha:a<26)(hb:b<26){ok:Bool}{p:Nat→Int}(h:Bo.tq m a b ok p)(hc:Bo.Da m a b):ok=false∧p=fun _=>0:=by
 rcases h with⟨_,_,h2⟩|⟨h1,_,h2⟩
 ·exact absurd hc (h2.vX hm ha hb)
 ·exact⟨h1,h2⟩
def rI(W:V8)(v:R2)(k:Nat)(S:Nat→Nat→Nat):Prop:=∃g cap,v=.slice (some ⟨g,0,none⟩) k cap∧∀i c,i<k→c<26→W.cell? ⟨g,i*26+c,none⟩=some (.int .i64 (S i c:Nat))
theorem rI.below{W W':V8}{v:R2}{k:Nat}{S:Nat→Nat→Nat}(h:rI W v k S)(hb:Wh W.heap.size W W'):rI W' v k S:=by
 obtain⟨g,cap,e,h1⟩:=h;exact⟨g,cap,e,fun i c hi hc=>(hb.cell (p:=⟨g,i*26+c,none⟩) (aA (h1 i c hi hc))).trans (h1 i c hi hc)⟩
theorem A4{W:V8}{g k cap:Nat}{T:TypeId}{S:Nat→Nat→Nat}(h:af W g T (ints (k*26) (flat S))):rI W (.slice (some ⟨g,0,none⟩) k cap) k S:=⟨g,cap,rfl,fun i c hi hc=>by
 have h1:=h.cell (aB (flat S) (i:=i*26+c) vom);unfold flat at h1;rw[show(i*26+c) / 26=i by omega,show(i*26+c) % 26=c by omega]at h1;exact h1⟩
theorem sH:qf.built 33 []=some (ints 26 fun _=>0):=vkr
theorem Cr(m:Bo.Mn)(hm:m.Ok)(hk32:m.k≤32)(a b:Nat)(ha:a<26)(hb:b<26)(ok:Bool)(pr:Nat→Int)(hres:Bo.tq m a b ok pr)(G:Nat)(vk:R2)(w:V8)(hmn:vt w G (fun c=>Bo.ml m c m.k))(hks:rI w vk m.k m.s):Calls qf 59 #[.pointer (some ⟨G,0,none⟩),vk,.int .i64 (a:Nat),.int .i64 (b:Nat)] w fun e w'=>e=.returned (.tuple #[.agg (ints 26 pr),.bool ok])∧Wh w.heap.size w w':=by
 obtain⟨vals,O,q4⟩:=hmn;obtain⟨gk,ck,rfl,q6⟩:=hks;have r3:Hid (∀c,c<26→w.cell? ⟨G,c,none⟩=some (vals c)):=O;have j6:Hid (∀c,c<26→nC w (vals c) (Bo.ml m c m.k)):=q4;have j1:Hid (∀i c,i<m.k→c<26→w.cell? ⟨gk,i*26+c,none⟩=some (.int .i64 (m.s i c:Nat))):=q6;have V:Hid (Bo.Da m a b→ok=false∧pr=fun _=>0):=fun hc=>L4 hm ha hb hres hc
 have k8:Hid (∀p,Bo.Sub m a b p→Bo.Closed m a b p→ok=true∧ints 26 pr=ints 26 p):=fun p h1 h2=>by
  have:=Bo.tq.unique hm ha hb hres (.inl ⟨rfl,h1,h2⟩);exact⟨this.1,b8 this.2⟩
 have HM:Hid m.Ok:=hm;have w6:Hid (∀x y,Bo.nP m a b x y→x<26∧y<26):=fun x y hd=>hd.lt hm ha hb;have s4:=bR dG;have e8:=af.new w 33 (ints 26 fun _=>0);have p5:=(Wm w.heap.size w).alloc (R3 _) (.cells (ints 26 fun _=>0) 33);clear O q4 q6 hres hm;go_enter Tryz.func59,Tryz.ntmps59
 go_upto_region 1 with fail
 generalize hW0:w.alloc (.cells (ints 26 fun _=>0) 33)=W0 at *;clear s4 hW0
 go_wp2_with fail
 refine(Ir W0).mono ?_;rintro e W1 ⟨q,rfl,hq,Z,o6⟩;have h1:wN w W1 q (fun _=>-1) (fun _=>0) 0:=⟨e8.below o6 e8.lt,Z,p5.trans (o6.mono p5.size),by have:=e8.lt;omega⟩
 clear e8 p5 Z o6 hq
 go_wp2_with fail
 refine(yM q _ _ 0 a b ha (fun _=>by decide) _ h1.bd).mono ?_;rintro e W2 ⟨t,⟨_,rfl,Z⟩|⟨j4,_⟩⟩
 case inr=>exact absurd rfl j4
 have q8:=h1.grown t Z
 have k3:Bo.qT m a b (upd (fun _=>(-1:Int)) a (b:Nat)) (fun j=>if j=0 then a else 0) 1:=
  Bo.qT.put (m:=m) (a:=a) (b:=b) (p:=fun _=>-1) (s:=fun _=>0) (n:=0) ⟨fun j hj=>by omega,fun i j hi=>by omega,fun j hj=>by omega,fun x _ h=>absurd rfl h,fun x _=>.inl rfl⟩ ha hb rfl .base
 have j3:upd (fun _=>(-1:Int)) a ((b:Nat):Int) a=(b:Nat):=vsi;clear h1 t Z;generalize upd (fun _=>(-1:Int)) a ((b:Nat):Int)=p0 at *;generalize (fun j=>if j=0 then a else 0)=s0 at *
 go_wp2_with fail
 go_loopw [11] (fun i W=>∃(d:Nat) (p:Nat→Int) (s:Nat→Nat) (n:Nat),d≤n∧i=.int .i64 (d:Nat)∧wN w W q p s n∧Bo.qT m a b p s n∧p a=(b:Nat)∧∀j,j<d→Bo.Done m p (s j)) (fun i _=>((26:Int)-intOf i).toNat)
 case atStart=>exact⟨0,p0,s0,_,vom,rfl,q8,k3,j3,fun j hj=>by omega⟩
 case round=>
  clear q8 k3 j3;clear p0 s0;obtain⟨d,p,s,n,hd,rfl,hg,B,e6,e5⟩:=hrel;have r7:=B.le;have cn:=af.cell (T:=166) hg.bd (aB (jv p s n) (i:=52) vom);rw[QE]at cn;by_cases hlt:d<n
  case neg=>
   obtain rfl:d=n:=vom;have s6:¬((d:Nat):Int)<((d:Nat):Int):=vom;have HT:Hid _:=k8.out p B.sub (Bo.I7 HM.out B e6 e5);have w8:Hid _:=JI hg.bd;have E:=hg.res;have w7:Hid (Wh w.heap.size w wr):=hg.below;clear hlt hg B e6 e5 r7
   go_wp2_with (first|refine ZX rfl 33 _ rfl q 0 rfl (ints 26 p).toList _ w8.out Wp rfl (by rw[Wx,ag];exact aj) ?_|refine Wk rfl 33 _ _ rfl w.heap.size (ints 26 p) rfl rfl 33 _ E (by rw[ag];exact aj) (by simp only[ag]) (aI _ _) ?_)
   exact WL (v:=.tuple #[.agg (ints 26 p),.bool true]) (aF rfl _ _ w.heap.size 33 _ (0,0) _ _ rfl rfl (E.row _) Wp rfl (by rw[ag];exact aj)) rfl ⟨by rw[HT.out.1,HT.out.2],Below.setRow w7.out _ (R3 _) _⟩
  have q2:Hid (d<n∧d<26):=⟨hlt,vom⟩
  have w9:(d:Int)<(n:Int):=vom;have x3:(d:Int)<26:=vom;have F:=B.lt d hlt;obtain⟨x,hx⟩:∃x,x=s d:=⟨_,rfl⟩
  obtain⟨y,D,l9,e9⟩:∃y:Nat,y<26∧p x=(y:Int)∧Bo.nP m a b x y:=by
   rcases B.sub x (by rw[hx];exact F)with h|h
   ·rw[hx]at h;exact absurd h (B.set d hlt)
   ·exact h
  have csd:=af.cell (T:=166) hg.bd (aB (jv p s n) (i:=26+d) vom);rw[Vn _ _ _ vom,←hx]at csd;rw[←hx]at F;have cpx:=af.cell (T:=166) hg.bd (aB (jv p s n) (i:=x) vom);rw[Pk _ _ _ F,l9]at cpx;have s5:Hid _:=hx;have x4:(x:Int)<26:=vom;have x7:(y:Int)<26:=vom;have P:Hid _:=e9;have q5:Hid _:=l9;have e7:Hid _:=B;have j2:Hid _:=e6;have v7:Hid _:=e5;have HG:Hid _:=hg;clear B e6 e5 e9 l9 hx hlt
  go_wp2_with fail
  refine(yM q p s n y x D (fun h=>e7.out.P4 D h) _ HG.out.bd).mono ?_
  have l:∀(e:Ending) (W3:V8),(wr.grownBy W3 (some q)∧((p y=-1∧e=.returned (.bool true)∧rG W3 q (upd p y (x:Nat)) (fun j=>if j=n then y else s j) (n+1))∨(p y≠-1∧e=.returned (.bool (p y==((x:Nat):Int)))∧rG W3 q p s n)))→(e=.returned (.bool false)∧Bo.Da m a b∧wN w W3 q p s n)∨(e=.returned (.bool true)∧∃p2 s2 n2,wN w W3 q p2 s2 n2∧Way m a b p s n x y (Bo.ml m x m.k) 0 p2 s2 n2):=by
   rintro e W3 ⟨t,⟨h1,h2,h3⟩|⟨h1,h2,h3⟩⟩
   ·have r9:=Bo.Ext.put (p:=p) (x:=y) ((x:Nat):Int) h1
    refine .inr ⟨h2,_,_,_,HG.out.grown t h3,e7.out.put D F h1 P.out.sym,r9,fun i hi=>V9 vom,vom,r9 _ _ q5.out,vsi,fun i hi=>by omega⟩
   ·by_cases e2:p y=((x:Nat):Int)
    ·refine .inr ⟨by rw[h2,e2];simp,_,_,_,HG.out.grown t h3,e7.out,Bo.Ext.refl _,fun i hi=>rfl,R3 _,q5.out,e2,fun i hi=>by omega⟩
    ·refine .inl ⟨by rw[h2];simp[e2],?_,HG.out.grown t h3⟩
     rcases e7.out.sub y D with h|⟨z,_,hz,k6⟩
     ·exact absurd h h1
     ·exact⟨y,z,x,k6,P.out.sym,fun e3=>e2 (by rw[hz,e3])⟩
  have k7:Hid _:=l;clear l HG csd cpx cn;intro e W3 hpost;rcases k7.out e W3 hpost with⟨rfl,N,g⟩|⟨rfl,p2,s2,n2,g,f⟩
  ·have J:Hid _:=V.out N
   have E:=g.res;have k9:=g.below;clear N g hpost k7
   go_wp2_with (first|refine cS rfl 33 rfl (ints 26 fun _=>0) sH ?_|refine Wk rfl 33 _ _ rfl w.heap.size (ints 26 fun _=>0) rfl rfl 33 _ E (by rw[ag];exact aj) (by simp only[ag]) (aI _ _) ?_)
   exact WL (v:=.tuple #[.agg (ints 26 fun _=>0),.bool false]) (aF rfl _ _ w.heap.size 33 _ (0,0) _ _ rfl rfl (E.row _) Wp rfl (by rw[ag];exact aj)) rfl ⟨by rw[J.out.1,J.out.2],Below.setRow k9 _ (R3 _) _⟩
  clear hpost k7;have cml:=(g.below.cell (aA (r3.out x F))).trans (r3.out x F);obtain⟨al,cl,q3,q9⟩:=j6.out x F;rw[q3]at cml;have p9:Hid (∀c,c<(Bo.ml m x m.k).length→∃b,al=some ⟨b,0,none⟩∧w.cell? ⟨b,c*2,none⟩=some (.int .i64 (((Bo.ml m x m.k).getD c (0,0)).1:Nat))∧w.cell? ⟨b,c*2+1,none⟩=some (.int .i64 (((Bo.ml m x m.k).getD c (0,0)).2:Nat))):=q9;have v8:=Bo.CY m x m.k;have p7:Hid (∀j,j<(Bo.ml m x m.k).length→((Bo.ml m x m.k).getD j (0,0)).1<m.k∧Bo.nP m a b ((Bo.ml m x m.k).getD j (0,0)).2 (m.s ((Bo.ml m x m.k).getD j (0,0)).1 y)):=fun j hj=>⟨(Bo.Ep m x m.k (A6 hj)).1,Bo.Kc (A6 hj) P.out⟩
  have Q:Hid (∀j p2 s2 n2,Way m a b p s n x y (Bo.ml m x m.k) j p2 s2 n2→j=(Bo.ml m x m.k).length→Bo.Done m p2 x):=fun j p2 s2 n2 h1 h2=>h1.done h2;obtain⟨L,hL⟩:∃L,L=Bo.ml m x m.k:=⟨_,rfl⟩
  rw[←hL]at p9 v8 p7 Q cml f;clear q3 q9 hL
  go_wp2_with fail
  clear cml;go_loopw [53] (fun i W=>∃(j:Nat) (p2:Nat→Int) (s2:Nat→Nat) (n2:Nat),j≤L.length∧i=.int .i64 (j:Nat)∧wN w W q p2 s2 n2∧Way m a b p s n x y L j p2 s2 n2) (fun i _=>((L.length:Int)-intOf i).toNat)
  case atStart=>exact⟨0,p2,s2,n2,vom,rfl,g,f⟩
  case round=>
   clear g f;clear p2 s2 n2;obtain⟨j,p2,s2,n2,hj,rfl,hg,f⟩:=hrel;by_cases hlt:j<L.length
   case neg=>
    obtain rfl:j=L.length:=vom;have s6:¬((L.length:Nat):Int)<((L.length:Nat):Int):=vom
    have H:Hid (d+1≤n2∧Bo.qT m a b p2 s2 n2∧p2 a=(b:Nat)∧∀j,j<d+1→Bo.Done m p2 (s2 j)):=by
     have h1:=q2.out.1;have h2:=f.le;refine⟨vom,f.said,f.ext _ _ j2.out,fun i hi=>?_⟩;rw[f.same i vom];by_cases e:i=d
     ·rw[e,←s5.out]
      exact Q.out _ _ _ _ f rfl
     ·exact(v7.out i vom).ext f.ext
    have HG:Hid _:=hg;clear hg f hlt;go_wp2;go_roundw
    case rel=>exact⟨d+1,p2,s2,n2,H.out.1,by go_num,HG.out,H.out.2.1,H.out.2.2.1,H.out.2.2.2⟩
    case measure=>have:=q2.out.2;simp[intOf];omega
   have r5:Hid (j<L.length):=hlt;have x2:(j:Int)<(L.length:Int):=vom;obtain⟨bl,rfl,c1,c2⟩:=p9.out j hlt;have d1:=(hg.below.cell (p:=⟨bl,j*2,none⟩) (aA c1)).trans c1;have d2:=(hg.below.cell (p:=⟨bl,j*2+1,none⟩) (aA c2)).trans c2;obtain⟨q7,l5⟩:=p7.out j hlt;have C:=w6.out _ _ l5;have Y:Hid _:=l5;obtain⟨i,hi⟩:∃i,i=(L.getD j (0,0)).1:=⟨_,rfl⟩
   obtain⟨o,ho⟩:∃o,o=(L.getD j (0,0)).2:=⟨_,rfl⟩
   rw[←hi]at d1 q7 C Y;rw[←ho]at d2 C Y;have ckey:=j1.out i y q7 D;have n4:Hid _:=ckey;obtain⟨v,hv⟩:∃v,v=m.s i y:=⟨_,rfl⟩
   rw[←hv]at n4 C Y;have e4:Hid (o=(L.getD j (0,0)).2∧v=m.s (L.getD j (0,0)).1 y):=⟨ho,by rw[hv,hi]⟩
   have I:Hid _:=f;have HG:Hid _:=hg;have x5:(o:Int)<26:=vom;have x6:(i:Int)<(m.k:Int):=vom;clear hi ho hv hlt c1 c2 l5 ckey f hg
   go_upto_region 13 with fail
   have r6:=HG.out.alloc (.cells #[.int .i64 (i:Nat),.int .i64 (o:Nat)] 107);have M:=af.new wr 107 #[.int .i64 (i:Nat),.int .i64 (o:Nat)];have r4:=af.lt HG.out.bd;generalize wr.alloc (.cells #[.int .i64 (i:Nat),.int .i64 (o:Nat)] 107)=V4 at *;obtain⟨q15,j0⟩:∃x,x=wr.heap.size:=⟨_,rfl⟩
   rw[←j0]at M r4⊢;clear j0 HG d1 d2;have A:wN w V4.drew q p2 s2 n2∧af V4.drew q15 107 #[.int .i64 (i:Nat),.int .i64 (o:Nat)]:=⟨r6.drew,M⟩
   clear r6 M;refine Xb ?_;refine Wz (S:=fun W=>∃p2 s2 n2,wN w W q p2 s2 n2∧af W q15 107 #[.int .i64 (i:Nat),.int .i64 (o:Nat)]) vkr ⟨_,_,_,A⟩ (fun hS=>?_);obtain⟨U,hU⟩:∃x,x=V4.drew:=⟨_,rfl⟩
   rw[←hU]at hS A⊢;clear hU;refine vuq 0 57 (.pointer (some ⟨q,0,none⟩)) ?_;refine vuq 1 58 (.pointer (some ⟨q15,1,none⟩)) ?_;refine vuk 2 59 (.int .i64 (o:Nat)) rfl (fun W hW=>by obtain⟨_,_,_,k5,hW⟩:=hW;have u:=hW.cell (i:=1) rfl;clear hS hW;go_simp) hS ?_;refine vuq 3 60 (.slice (some ⟨gk,0,none⟩) m.k ck) ?_;refine vuq 4 61 (.pointer (some ⟨q15,0,none⟩)) ?_;refine vuk 5 62 (.int .i64 (i:Nat)) rfl (fun W hW=>by obtain⟨_,_,_,k5,hW⟩:=hW;have u:=hW.cell (i:=0) rfl;clear hS hW;go_simp) hS ?_;refine vuq 6 63 (.int .i64 (y:Nat)) ?_;refine vuq 7 64 (.pointer (some ⟨gk,i*26,none⟩)) ?_;refine vuq 8 65 (.pointer (some ⟨gk,i*26+y,none⟩)) ?_;refine vuk 9 66 (.int .i64 (v:Nat)) rfl (fun W hW=>by obtain⟨_,_,_,k5,hW⟩:=hW;have u:=(k5.below.cell (p:=⟨gk,i*26+y,none⟩) (aA n4.out)).trans n4.out;clear hS hW;go_simp) hS ?_;refine rd1 10 rfl (fun K hK=>?_);go_simp;refine(yM q p2 s2 n2 o v C.1 (fun h=>I.out.said.P4 C.1 h) _ A.1.bd).mono ?_
   have l:∀(e:Ending) (W3:V8),(U.grownBy W3 (some q)∧((p2 o=-1∧e=.returned (.bool true)∧rG W3 q (upd p2 o (v:Nat)) (fun j=>if j=n2 then o else s2 j) (n2+1))∨(p2 o≠-1∧e=.returned (.bool (p2 o==((v:Nat):Int)))∧rG W3 q p2 s2 n2)))→af W3 q15 107 #[.int .i64 (i:Nat),.int .i64 (o:Nat)]∧((e=.returned (.bool false)∧Bo.Da m a b∧wN w W3 q p2 s2 n2)∨(e=.returned (.bool true)∧∃p3 s3 n3,wN w W3 q p3 s3 n3∧Way m a b p s n x y L (j+1) p3 s3 n3)):=by
    rintro e W3 ⟨t,k4⟩;refine⟨(t.block _ A.2.lt (fun e=>by cases e;omega)).trans A.2,?_⟩;rcases k4 with⟨h1,h2,h3⟩|⟨h1,h2,h3⟩
    ·exact .inr ⟨h2,_,_,_,A.1.grown t h3,I.out.put C.1 C.2 h1 Y.out e4.out.1.symm e4.out.2.symm⟩
    ·by_cases e2:p2 o=((v:Nat):Int)
     ·exact .inr ⟨by rw[h2,e2];simp,_,_,_,A.1.grown t h3,I.out.keep e2 e4.out.1.symm e4.out.2.symm⟩
     ·refine .inl ⟨by rw[h2];simp[e2],?_,A.1.grown t h3⟩
      rcases I.out.said.sub o C.1 with h|⟨z,_,hz,k6⟩
      ·exact absurd h h1
      ·exact⟨o,z,v,k6,Y.out,fun e3=>e2 (by rw[hz,e3])⟩
   intro e W3 hpost;obtain⟨b9,k4⟩:=l e W3 hpost;clear hpost l A hS;rcases k4 with⟨rfl,N,g⟩|⟨rfl,p3,s3,n3,g,r8⟩
   ·refine hK.out _ _ ⟨_,_,_,g,b9⟩ (fun hS=>?_)
    clear hK K;refine vuq 11 68 (.bool true) ?_;refine Xq vkr ?_ _;refine WU ?_;have J:Hid _:=V.out N;have E:=g.res;have k9:=g.below;clear N g hS b9
    go_wp2_with (first|refine cS rfl 33 rfl (ints 26 fun _=>0) sH ?_|refine Wk rfl 33 _ _ rfl w.heap.size (ints 26 fun _=>0) rfl rfl 33 _ E (by rw[ag];exact aj) (by simp only[ag]) (aI _ _) ?_)
    exact WL (v:=.tuple #[.agg (ints 26 fun _=>0),.bool false]) (aF rfl _ _ w.heap.size 33 _ (0,0) _ _ rfl rfl (E.row _) Wp rfl (by rw[ag];exact aj)) rfl ⟨by rw[J.out.1,J.out.2],Below.setRow k9 _ (R3 _) _⟩
   ·refine hK.out _ _ ⟨_,_,_,g,b9⟩ (fun hS=>?_)
    clear hK K;refine vuq 11 68 (.bool false) ?_;refine Xq vkr ?_ _;refine WU ?_;have w5:Hid _:=g;have j5:Hid _:=r8;clear g hS b9 r8
    go_wp2_with fail
    go_roundw
    case rel=>exact⟨j+1,p3,s3,n3,r5.out,by go_num,w5.out,j5.out⟩
    case measure=>have:=r5.out;simp[intOf];omega
end
end Go.Proofs.YtpcnpkhgjanamaaGreatDoor
