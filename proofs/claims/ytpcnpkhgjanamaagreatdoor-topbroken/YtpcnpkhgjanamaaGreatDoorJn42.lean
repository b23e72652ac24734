import Derived.Test.YtpcnpkhgjanamaaGreatDoorPz
import Derived.Test.YtpcnpkhgjanamaaGreatDoorJn41
namespace Go.Proofs.YtpcnpkhgjanamaaGreatDoor
open Go.Proofs.Tryz renaming prog→qf
open Go renaming Value→R2,World→V8,undef→Wb,Goroutine→Wi,runNT_add→XM
set_option maxRecDepth 100000
set_option maxHeartbeats 8000000
section
open Go.RowKit PK Vg Go.Conc Cs
structure S7(g:Gm)(h:Hl)(cr te:ByteArray):Prop where
 n:h.n=g.n
 t:∀N,∃A ok pr,Uo (ie g N) cr te A ok pr∧h.gs N=(fun b=>CU A b (pr b))∧h.lg N=fO ok 26
theorem OI{g:Gm}{cr te:ByteArray}(h:Ah g cr.data.toList te.data.toList=0)(N:Nat):Ah (ie g N) cr.data.toList te.data.toList=0:=by
 have h1:=C6 (jx h).1 N;have h0:=(jx h).1;unfold Ah at h⊢;rw[h1];rw[h0]at h;exact h
theorem C7{g:Gm}{cr te:ByteArray}(h:Ah g cr.data.toList te.data.toList=0):∃hl,S7 g hl cr te:=by
 have key:∀N,∃x:Nat×(Nat→Bool)×(Nat→Nat→Int),Uo (ie g N) cr te x.1 x.2.1 x.2.2:=fun N=>by
  obtain⟨A,ok,pr,ht⟩:=Dz (OI h N);exact⟨(A,ok,pr),ht⟩
 exact⟨⟨g.n,fun N b=>CU (key N).choose.1 b ((key N).choose.2.2 b),fun N=>fO (key N).choose.2.1 26⟩,rfl,fun N=>⟨_,_,_,(key N).choose_spec,rfl,rfl⟩⟩
theorem J4(g:Gm)(cr te:ByteArray)(N c:Nat):∀k,Bo.ml (mL (ie g N) cr te) c k=Bo.ml (mL g cr te) c k
 |0=>rfl
 |k+1=>by rw[Bo.ml,Bo.ml,J4 g cr te N c k];rfl
theorem F4{g:Gm}{h:Int}(hE:sI g h=0):1≤g.n∧g.n≤3∧gE g=0:=by
 obtain⟨a,b,_,_⟩:=gI hE;refine⟨?_,b,a⟩;refine Nat.lt_of_not_le fun hc=>?_;unfold gE at a;rw[Wc (.inl vom)]at a;cases a
section
variable{w w':V8}(hag:∀b,b<w.heap.size→w'.heap[b]?=w.heap[b]?)
include hag
theorem OL{v:R2}{s n:Nat}{f:Nat→Int}(h:kZ w v s n f):kZ w' v s n f:=by
 obtain⟨a,cap,h1,h3⟩:=h;refine⟨a,cap,h1,fun c hc=>?_⟩;obtain⟨b,o,e,k⟩:=h3 c hc;exact⟨b,o,e,zK hag k⟩
theorem Nr{q s:Nat}{L:Nat→List (Nat×Nat)}(h:SP w q s L):SP w' q s L:=by
 obtain⟨y,T,fr,h1,h2⟩:=h;refine⟨y,T,fr,LJ hag h1,fun c hc=>?_⟩;obtain⟨v,e,k1,k2⟩:=h2 c hc;exact⟨v,e,OL hag k1,cW hag k2⟩
end
theorem Dq(k:Nat)(hk:k<26)(bN bC q s:Nat)(a b c:R2)(g:Gm)(cr te:ByteArray)(h:Hl)(hB:S7 g h cr te)(hd:Int)(hE:sI g hd=0)(hfit:∀r,r<g.n→g.nl r*8≤140737488355328)(hrl:g.rl*8≤140737488355328)(TN TC:TypeId)(fN fC:Nat×Nat)(w:V8)(hN:w.heap[bN]?=some (.cells #[.pointer (some ⟨q,s,none⟩)] TN fN))(hC:w.heap[bC]?=some (.cells #[.string cr] TC fC))(hmn:SP w q s (fun c=>Bo.ml (mL g cr te) c (mL g cr te).k))(ha:DU w a g.n g.wi g.nl g.no)(hb:aq w b g.rl g.ri)(hc:aq w c g.sl g.st)(ra:Rt w a)(rb:Rt w b)(rc:Rt w c):
  ∃(E:Env) (wl:V8) (x:Array R2),(∀b q s o,E b=some (q,s,o)→o=false∧q<w.heap.size)∧LR E x #[.agg (aP a b c g.rf g.pl),.int .i64 (k:Nat),.func (.func 28) #[] #[.pointer (some ⟨bN,0,none⟩),.pointer (some ⟨bC,0,none⟩)]]∧WR qf E wl w∧aT.G≤wl.heap.size∧∀τ,Calls qf 56 x (wl.tp τ) fun e w'=>∃v,e=.returned v∧xd w' wl.heap.size v (h.fY k (26 ^ (g.n-1))) h:=by
 obtain⟨D,L,M⟩:=F4 hE;obtain⟨E1,wl1,a',b',c',p1,q1,ra',rb',rc',K⟩:=oM (Cp.nil (P:=qf) w) c8 ha hb hc ra rb rc;obtain⟨E2,wl2,d,p2,q2,rd,I⟩:=Oo p1 c8 hmn
 obtain⟨E3,wl3,dN,p3,q3,rN,kN⟩:=lS p2 c8 hN #[.pointer (some ⟨d,0,none⟩)] (fun i u hu=>by
  have hi:i=0:=by have:=(Wd.1 hu).1;simp at this;exact this
  subst hi;cases hu;exact⟨_,rfl,rd⟩)
 obtain⟨E4,wl4,dC,p4,q4,rC,kC⟩:=lS p3 c8 hC #[.string cr] (fun i u hu=>by
  have hi:i=0:=by have:=(Wd.1 hu).1;simp at this;exact this
  subst hi;cases hu;exact⟨_,rfl,.string _⟩)
 have m:=lU q4 (lU q3 (lU q2 K));have J:LR E4 (aP a' b' c' g.rf g.pl) (aP a b c g.rf g.pl):=oA (((ra'.mono q2.le).mono q3.le).mono q4.le) (((rb'.mono q2.le).mono q3.le).mono q4.le) (((rc'.mono q2.le).mono q3.le).mono q4.le);have H:wl4.cell? ⟨dN,0,none⟩=some (.pointer (some ⟨d,0,none⟩)):=q4.cell (by rw[Xf _ _ _ _ _ _ kN];rfl);have z:wl4.cell? ⟨dC,0,none⟩=some (.string cr):=by rw[Xf _ _ _ _ _ _ kC];rfl
 have l:vt wl4 d (fun c=>Bo.ml (mL g cr te) c (mL g cr te).k):=by
  obtain⟨vals,h1,h2⟩:=I;refine⟨vals,fun c hc=>q4.cell (q3.cell (h1 c hc)),fun c hc=>?_⟩;obtain⟨x,y,e,k⟩:=h2 c hc;refine⟨x,y,e,fun c hc=>?_⟩;obtain⟨b,e1,e2,e3⟩:=k c hc;exact⟨b,e1,q4.cell (q3.cell e2),q4.cell (q3.cell e3)⟩
 have C:VR E4 (.func (.func 28) #[] #[.pointer (some ⟨dN,0,none⟩),.pointer (some ⟨dC,0,none⟩)]) (.func (.func 28) #[] #[.pointer (some ⟨bN,0,none⟩),.pointer (some ⟨bC,0,none⟩)]):=by
  have l1:LR E4 #[.pointer (some ⟨dN,0,none⟩),.pointer (some ⟨dC,0,none⟩)] #[.pointer (some ⟨bN,0,none⟩),.pointer (some ⟨bC,0,none⟩)]:=ah (rN.mono q4.le) (ah rC gR);exact .func _ vkr rfl (fun i u v hu=>by simp at hu) l1.size l1.at_
 refine⟨E4,wl4,#[.agg (aP a' b' c' g.rf g.pl),.int .i64 (k:Nat),.func (.func 28) #[] #[.pointer (some ⟨dN,0,none⟩),.pointer (some ⟨dC,0,none⟩)]],fun b q s o e=>⟨p4.sh _ _ _ _ e,(p4.wr.lt e).2⟩,ah (.lK J) (ah (.int _ _) (ah C gR)),p4.wr,p4.gF,fun τ=>?_⟩;obtain⟨hn,ht⟩:=hB;obtain⟨hh,gs,lg⟩:=h;dsimp only at hn;subst hn;refine(Tn _ g D vom hfit hrl k hk dN dC gs lg (wl4.tp τ) m (fun N a2 b2 c2 W hb2 hm2=>?_)).mono ?_
 ·obtain⟨A,ok,pr,F,e1,e2⟩:=ht N
  dsimp only at e1 e2
  have t:vt W d (fun c=>Bo.ml (mL (ie g N) cr te) c (mL (ie g N) cr te).k):=by
   have e3:(fun c=>Bo.ml (mL (ie g N) cr te) c (mL (ie g N) cr te).k)=(fun c=>Bo.ml (mL g cr te) c (mL g cr te).k):=YP fun c=>J4 g cr te N c _;rw[e3];exact vt.below (W:=wl4.tp τ) l hb2
  have f:(wl4.tp τ).cell? ⟨dN,0,none⟩=some (.pointer (some ⟨d,0,none⟩)):=H;have j:(wl4.tp τ).cell? ⟨dC,0,none⟩=some (.string cr):=z;refine(Rc a2 b2 c2 (ie g N) cr te A ok pr F (by show g.n*8≤_;omega) dN dC d W hm2 ((hb2.cell (aA f)).trans f) ((hb2.cell (aA j)).trans j) t).mono ?_;rintro e w' ⟨us,ug,rfl,k1,⟨B,k2⟩,k3⟩;refine⟨us,ug,?_,⟨k1,B,?_⟩,k3⟩
  ·show Ending.returned (.tuple #[.agg #[us,ug],.bool (decide (0<(fO ok 26).length))])=.returned (.tuple #[.agg #[us,ug],.bool (decide (0<(lg N).length))])
   rw[e2]
  ·show iK w' B ug (gs N) (lg N)
   rw[e1,e2];exact k2
 ·rintro e w' ⟨v,rfl,h1,_⟩
  exact⟨v,rfl,h1⟩
theorem Dh(cst:fX)(bF bM bL bD bN bC q s:Nat)(a b c:R2)(g:Gm)(cr te:ByteArray)(hl:Hl)(hBm:S7 g hl cr te)(h:Int)(hE:sI g h=0)(hfit:∀r,r<g.n→g.nl r*8≤140737488355328)(hrl:g.rl*8≤140737488355328)(TN TC:TypeId)(fN fC:Nat×Nat)(wp:V8)
  (hpre:∀w,cst.Ok w→∀b,b<wp.heap.size→w.heap[b]?=wp.heap[b]?) (hfix:∀q,q<wp.heap.size→cst.Fix q)
  (hN:wp.heap[bN]?=some (.cells #[.pointer (some ⟨q,s,none⟩)] TN fN)) (hC:wp.heap[bC]?=some (.cells #[.string cr] TC fC)) (hmn:SP wp q s (fun c=>Bo.ml (mL g cr te) c (mL g cr te).k)) (ha:DU wp a g.n g.wi g.nl g.no) (hb:aq wp b g.rl g.ri) (hc:aq wp c g.sl g.st) (ra:Rt wp a) (rb:Rt wp b) (rc:Rt wp c)
  (wk:Fj cst bF bM bL bD (.agg (aP a b c g.rf g.pl)) (.func (.func 28) #[] #[.pointer (some ⟨bN,0,none⟩),.pointer (some ⟨bC,0,none⟩)])) (hn:1≤cst.n∧cst.n≤1000) (hK:cst.K=26) (hz:cst.z1=.int .i64 0∧cst.z2=.bool false∧cst.MV=.tuple #[]∧cst.zs2=.tuple #[]) (hB:cst.fB=56) (har:cst.ar=fun k=>#[.agg (aP a b c g.rf g.pl),.int .i64 (k:Nat),.func (.func 28) #[] #[.pointer (some ⟨bN,0,none⟩),.pointer (some ⟨bC,0,none⟩)]]) (s1:1≤cst.S0) (d1:cst.C1<cst.N1∧cst.C2<cst.N1∧cst.Fd<cst.N1∧cst.C1≠cst.C2∧cst.C1≠cst.Fd∧cst.C2≠cst.Fd)
  (cs:List Frame) {gs:Array Wi} {t:Trace} {qq:Nat→Nat} {g0:Wi} {w:V8} (hS:cst.S0=gs.size) (h0:gs[0]?=some g0) (hq:Qt qf gs t qq w.heap.size) {μ:Nat} (hw:Walk qf cst true (wM true cst bF bM bL bD cst.n cs 0) μ g0 w) (ok:cst.Ok w) (c1:w.heap[cst.C1]?=some (.chan 0 #[] false 0 0 false)) (c2:w.heap[cst.C2]?=some (.chan 0 #[] false 0 0 false)) (fd:∀j a ad,touchAt t j=some a→a.loc=.cell ad→ad.block≠cst.Fd) (sl:Option (Nat×Nat)) :
  ∃N gs' w' sl' t' q' V,∃v0 v2 v4 v6 v7 v8 v12 v13 v14 v15 v16 v17 v18 v19 v20 v21 v22 v23 v24 v25 v26 v27 v28 v29 v30 v31 v32 v33 v34 v35 v36 v37 v38 v39 v40 v41 v42 v43 v44 v45 v46 v47 v48 v49 v50 v51 v52:R2,runNT qf N (crowd gs w sl) t=(.next (crowd gs' w' sl'),t')∧gs'[0]?=some (G (aL 27 #[v0,.int .i64 (cst.n:Nat),v2,.pointer (some ⟨bM,0,none⟩),v4,.pointer (some ⟨bL,0,none⟩),v6,v7,v8,.pointer (some ⟨cst.Fd,0,none⟩),.pointer (some ⟨bF,0,none⟩),.pointer (some ⟨bD,0,none⟩),v12,v13,v14,v15,v16,v17,v18,v19,v20,v21,v22,v23,v24,v25,v26,v27,v28,v29,v30,v31,v32,v33,v34,v35,v36,v37,v38,v39,v40,v41,v42,v43,v44,v45,v46,v47,v48,v49,v50,v51,v52] [.code (Jn true)] .run) cs)∧w'.heap[cst.Fd]?=some (.cells (bJ 26 V) cst.TF (0,0))∧(∀k,k<26→MY w' (V k) (hl.fY k (26 ^ (g.n-1))) hl)∧cst.Ok w'∧Qt qf gs' t' q' w'.heap.size:=by
 have hG:qf.globals.size≤aT.G:=R3 _;obtain⟨z,A,C⟩:=F4 hE;have y:=hBm.n
 let S:=BK true (Post:=fun k v wl=>∃B,xd wl B v (hl.fY k (26 ^ (g.n-1))) hl) cst bF bM bL bD _ _ cs wk hn hK hz hB har s1 d1 (by rw[hB];kernel_rfl) (fun k hk w hw=>by
   obtain⟨E,wl,x,k1,k2,k3,k4,k5⟩:=Dq k vom bN bC q s a b c g cr te hl hBm h hE hfit hrl TN TC fN fC wp hN hC hmn ha hb hc ra rb rc;refine⟨E,wl,x,fun b q s o e=>⟨(k1 b q s o e).1,hfix q (k1 b q s o e).2⟩,by rw[har];exact k2,Fq k3 fun b x e=>?_,k4,fun τ=>?_⟩
   ·obtain⟨q,s,o⟩:=x
    exact hpre w hw q (k1 b q s o e).2
   ·rw[hB]
    refine(k5 τ).mono ?_;rintro e w' ⟨v,rfl,hv⟩;exact⟨v,rfl,_,hv⟩) (fun k v wl E v' hp hr=>by
   obtain⟨B,hp⟩:=hp;obtain⟨vs,⟨_,h2⟩,_⟩:=hp;generalize (hl.fY k (26 ^ (g.n-1))).length=nn at h2;rcases h2 with⟨rfl,_⟩|⟨_,_,_,rfl,_⟩<;>cases hr<;>exact⟨_,_,_,rfl⟩)
 obtain⟨N1,gs1,w1,sl1,t1,q1,g1,r1,i1,jn,run1,Q1,ok1,RS,D,f⟩:=yh (S:=S) hG cG hS h0 hq hw ok c1 c2 fd sl;obtain⟨v0,v2,v4,v6,v7,v8,v12,v13,v14,v15,v16,v17,v18,v19,v20,v21,v22,v23,v24,v25,v26,v27,v28,v29,v30,v31,v32,v33,v34,v35,v36,v37,v38,v39,v40,v41,v42,v43,v44,v45,v46,v47,v48,v49,v50,v51,v52,rfl⟩:=jn;obtain⟨cs,l,u⟩:=ok1.fd;rw[hK]at u f
 have d:∀k,∃v,k<26→cs[k]?=some v∧MY w1 v (hl.fY k (26 ^ (g.n-1))) hl:=fun k=>by
  by_cases hk:k<26
  ·obtain⟨v,e1,E,vl,wl,⟨B,p1⟩,p2,p3,_⟩:=f k hk
   rw[Xf _ _ _ _ _ _ l]at e1;exact⟨v,fun _=>⟨e1,Eh p3 (by rw[y];unfold maxLen;omega) p1 p2⟩⟩
  ·exact⟨.bool false,fun e=>absurd e hk⟩
 have m:cs=bJ 26 fun k=>(d k).choose:=by
  apply Xc;intro i;by_cases hi:i<26
  ·rw[aM _ hi]
   exact((d i).choose_spec hi).1
  ·rw[Wv vom,Wv (by rw[aU];omega)]
 rw[m]at l;exact⟨N1,gs1,w1,sl1,t1,q1,fun k=>(d k).choose,v0,v2,v4,v6,v7,v8,v12,v13,v14,v15,v16,v17,v18,v19,v20,v21,v22,v23,v24,v25,v26,v27,v28,v29,v30,v31,v32,v33,v34,v35,v36,v37,v38,v39,v40,v41,v42,v43,v44,v45,v46,v47,v48,v49,v50,v51,v52,r1,i1,l,fun k hk=>((d k).choose_spec hk).2,ok1,Q1⟩
structure Pj(A B:Array R2)(W w4 w8:V8)(h2 Fd C1 C2 bF bD:Nat):Prop where
 Qj:∀b,b<W.heap.size→w4.heap[b]?=W.heap[b]?
 bT:w4.heap[W.heap.size+1]?=some (.cells B 50 (0,0))
 lM:w4.heap[h2]?=some (.cells A 35 (0,0))
 lL:w4.heap[h2+1]?=some (.cells #[.func (.func 34) #[] #[.pointer (some ⟨W.heap.size+1,0,none⟩)]] 83 (0,0))
 fd:Fd=w4.heap.size
 Ec:∀b,b<w4.heap.size→w8.heap[b]?=w4.heap[b]?
 row:w8.heap[Fd]?=some (.cells (bJ 26 fun _=>.slice none 0 0) 129 (0,0))
 c1:Fd<C1∧w8.heap[C1]?=some (.chan 0 #[] false 0 0 false)
 c2:Fd<C2∧w8.heap[C2]?=some (.chan 0 #[] false 0 0 false)
 ne:C1≠C2
 bf:Fd<bF∧w8.heap[bF]?=some (.cells #[.chan (some C1)] 110 (0,0))
 bd:Fd<bD∧w8.heap[bD]?=some (.cells #[.chan (some C2)] 111 (0,0))
 env:w8.os=W.os∧w8.output=W.output
theorem Cx(a b c:R2)(g:Gm)(B:Array R2)(n:Nat)(hE:sI g (n:Int)=0)(W:V8)(ha:DU W a g.n g.wi g.nl g.no)(hb:aq W b g.rl g.ri)(hc:aq W c g.sl g.st)(ra:Rt W a)(rb:Rt W b)(rc:Rt W c)(A:Array R2)(hA0:A=aP a b c g.rf g.pl)(cs:List Frame){gs:Array Wi}{t:Trace}{q:Nat→Nat}(i1:gs[0]?=some (G ((base 11).at ⟨#[.agg A,.agg B,.int .i64 (n:Nat),Wb,Wb,Wb,Wb,Wb,Wb,Wb,Wb,Wb,Wb,Wb],[]⟩ [.code fB]) cs))(Q1:Qt qf gs t q W.heap.size)(sl1:Option (Nat×Nat)):
  ∃N gs' w4 w8 sl' t' q' g8 h2 Fd C1 C2 bF bD,runNT qf N (crowd gs W sl1) t=(.next (crowd gs' w8 sl'),t')∧gs'.size=gs.size∧gs'[0]?=some g8∧g8.status=.running∧(∀c:fX,c.Fd=Fd→wM false c bF h2 (h2+1) bD n ((base 11).at ⟨#[.agg A,.agg B,.int .i64 (n:Nat),.pointer (some ⟨W.heap.size,0,none⟩),.pointer (some ⟨W.heap.size+1,0,none⟩),Wb,.slice none 0 0,.int .i64 0,.agg A,.int .i64 (n:Nat),.func (.func 34) #[] #[.pointer (some ⟨W.heap.size+1,0,none⟩)],Wb,Wb,Wb],[]⟩ [.inRegion M0 (3 :: List.range' 4 4),.code .ret] :: cs) 0 g8)∧Cm (fun x=>∀ad,x.loc=.cell ad→ad.block≠Fd) qf gs' t' q' w8.heap.size∧Pj A B W w4 w8 h2 Fd C1 C2 bF bD:=by
 obtain⟨_,_,I,J⟩:=gI hE;have hG:qf.globals.size≤aT.G:=R3 _;have hA:A.size=55:=by rw[hA0];exact aD ..
 have I1:HI W.heap W.os W.output W:=⟨rfl,rfl,rfl⟩
 -- Find,to the call of Every
 obtain⟨mu2,G2⟩:=Ji A B hA (n:Int) cs W.heap W.os W.output W I1;obtain⟨N2,gs2,w2,sl2,t2,q2,g2,r2,z2,i2,⟨rfl,I2⟩,Q2⟩:=de (sl:=sl1) (fun _ _ _ h=>h) (fun g w h=>by rw[h.1];rfl) i1 G2 Q1;obtain⟨H2,k⟩:∃H2,H2=(W.heap.push (.cells A 35)).push (.cells B 50):=⟨_,rfl⟩
 rw[←k]at I2;have o2:∀b,b<W.heap.size→H2[b]?=W.heap[b]?:=fun b hb=>by rw[k];exact yg hb
 have e2:H2[W.heap.size+1]?=some (.cells B 50):=by rw[k];exact xm
 have s2:H2.size=W.heap.size+2:=by rw[k];exact wj
 clear k G2
 -- Every,to the call of searchWrong
 obtain⟨mu3,G3⟩:=tZ (hv:=false) A hA (n:Int) 34 #[] #[.pointer (some ⟨W.heap.size+1,0,none⟩)] _ H2 W.os W.output w2 I2;obtain⟨N3,gs3,w3,gP,t3,q3,g3,r3,z3,i3,⟨rfl,I3⟩,Q3⟩:=de (sl:=sl2) (fun _ _ _ h=>h) (fun g w h=>by rw[h.1];rfl) i2 G3 Q2;obtain⟨H3,i⟩:∃H3,H3=(H2.push (.cells A 35)).push (.cells #[.func (.func 34) #[] #[.pointer (some ⟨W.heap.size+1,0,none⟩)]] 83):=⟨_,rfl⟩
 rw[←i]at I3;have o3:∀b,b<H2.size→H3[b]?=H2[b]?:=fun b hb=>by rw[i];exact yg hb
 have d3:H3[H2.size]?=some (.cells A 35):=by rw[i];exact Hi
 have e3:H3[H2.size+1]?=some (.cells #[.func (.func 34) #[] #[.pointer (some ⟨W.heap.size+1,0,none⟩)]] 83):=by rw[i];exact xm
 have s3:H3.size=H2.size+2:=by rw[i];exact wj
 clear i G3
 have d:∀b,b<W.heap.size→w3.heap[b]?=W.heap[b]?:=fun b hb=>by
  rw[I3.1,o3 b vom,o2 b hb]
 -- searchWrong
 obtain⟨E1,wl1,a',b',c',p1,c1,ra',rb',rc',F⟩:=oM (Cp.nil (P:=qf) w3) c8 (jh d ha) (cF d hb) (cF d hc) (cW d ra) (cW d rb) (cW d rc)
 have D:∀cs,bH qf (fun v _=>v=.int .i64 0) cs E1 (G (Frame.enter qf 54 #[.agg (aP a' b' c' g.rf g.pl),.int .i64 (n:Nat)] .normal) [aK qf]) wl1 (G (Frame.enter qf 54 #[.agg A,.int .i64 (n:Nat)] .normal) cs) w3:=fun cs=>bH.start (c:=cs) cG (f:=54) vkr (x:=#[.agg (aP a' b' c' g.rf g.pl),.int .i64 (n:Nat)]) (y:=#[.agg A,.int .i64 (n:Nat)]) (ah (.lK (by rw[hA0];exact oA ra' rb' rc')) (ah (.int _ _) gR)) p1.wr p1.gF (fun τ=>by
  refine(Fu _ g (n:Int) (wl1.tp τ) F).mono ?_;rintro e w' ⟨rfl,_⟩;exact⟨_,rfl,by rw[hE]⟩)
 obtain⟨N4,gs4,w4,sl4,t4,q4,E4,v,v',wl4,r4,z4,i4,p4,vr,_,fc4,Q4⟩:=fG (sl:=gP) hG cG i3 (D _) Q3;subst p4;cases vr
 have k4:∀b,b<H3.size→w4.heap[b]?=H3[b]?:=fun b hb=>by
  rw[←I3.1];exact fc4.keep b (by rw[I3.1];exact hb) (fun b' s e=>by have:=p1.sh _ _ _ _ e;cases this)
 have s4:H3.size≤w4.heap.size:=by have:=fc4.size;rw[I3.1]at this;exact this
 have I4:HI w4.heap W.os W.output w4:=⟨rfl,fc4.os.trans I3.2.1,fc4.output.trans I3.2.2⟩
 have e4:w4.heap[H2.size+1]?=some (.cells #[.func (.func 34) #[] #[.pointer (some ⟨W.heap.size+1,0,none⟩)]] 83 (0,0)):=by rw[k4 _ vom];exact e3
 have u:∀b,b<W.heap.size→w4.heap[b]?=W.heap[b]?:=fun b hb=>by
  rw[k4 b vom,o3 b vom,o2 b hb]
 -- Every,on to its first 'go'
 obtain⟨mu5,G5⟩:=FA (hv:=false) A n 34 #[] #[.pointer (some ⟨W.heap.size+1,0,none⟩)] H2.size (H2.size+1) _ w4.heap W.os W.output w4 I4 e4;obtain⟨N5,gs5,w5,sl5,t5,q5,g5,r5,z5,i5,⟨rfl,I5⟩,Q5⟩:=de (sl:=sl4) (fun _ _ _ h=>h) (fun g w h=>by rw[h.1];rfl) i4 G5 Q4;obtain⟨Fd,m⟩:∃Fd,Fd=w4.heap.size:=⟨_,rfl⟩
 have F5:Cm (fun x=>∀ad,x.loc=.cell ad→ad.block≠Fd) qf gs5 t5 q5 w5.heap.size:=⟨Q5,fun j x hx ad e=>by
  have h1:=Q5.low j x hx;rw[e]at h1;have h2:ad.block<w5.heap.size:=h1;rw[I5.1]at h2;omega⟩
 obtain⟨mu6,G6⟩:=Aq (hv:=false) Fd A n 34 #[] #[.pointer (some ⟨W.heap.size+1,0,none⟩)] H2.size (H2.size+1) _ w4.heap W.os W.output w5 I5;obtain⟨N6,gs6,w6,sl6,t6,q6,g6,r6,z6,i6,⟨rfl,I6⟩,F6⟩:=eC (sl:=sl5) (fun _ _ _ h=>h) (fun g w h=>by rw[h.1];rfl) i5 G6 F5;rw[←m]at i6;obtain⟨H6,l⟩:∃H6,H6=w4.heap.push (.cells (bJ 26 fun _=>.slice none 0 0) 129):=⟨_,rfl⟩
 rw[←l]at I6;have o6:∀b,b<Fd→H6[b]?=w4.heap[b]?:=fun b hb=>by rw[l,Wq,V9 vom]
 have d6:H6[Fd]?=some (.cells (bJ 26 fun _=>.slice none 0 0) 129):=by rw[l,Wq,Wc m]
 have s6:H6.size=Fd+1:=by rw[l,YG];omega
 clear l;have Z6:Z7 H6 W.os W.output w6:=⟨fun b _=>by rw[I6.1],by rw[I6.1];exact R3 _,I6.2.1,I6.2.2⟩
 obtain⟨mu7,G7⟩:=FE (hv:=false) (n:=n) (bM:=H2.size) (bL:=H2.size+1) (Fd:=Fd) vom Z6 _;obtain⟨N7,gs7,w7,sl7,t7,q7,g7,r7,z7,i7,C,F7⟩:=eC (sl:=sl6) (fun _ _ _ h=>h) (fun g w h=>by obtain⟨_,_,_,_,_,_,_,_,_,_,_,_,_,_,_,_,_,_,_,_,_,_,_,_,_,_,_,_,_,_,_,_,_,_,_,_,_,_,_,_,_,_,_,_,_,_,_,_,_,e,_⟩:=h;rw[e];rfl) i6 G7 F6;obtain⟨C1,C2,bF,bD,u0,u2,u4,u6,u7,u8,u12,u13,u14,u15,u16,u17,u18,u19,u20,u21,u22,u23,u26,u27,u28,u29,u30,u31,u32,u33,u34,u35,u36,u37,u38,u39,u40,u41,u42,u43,u44,u45,u46,u47,u48,u49,u50,u51,u52,rfl,Z7',zc1,zc2,E,zb1,zb2⟩:=C;obtain⟨mu8,G8⟩:=Ff (hv:=false) (n:=n) (bM:=H2.size) (bL:=H2.size+1) (Fd:=Fd) (C1:=C1) (C2:=C2) (bF:=bF) (bD:=bD) (H:=w7.heap) (w:=w7) ⟨rfl,Z7'.os,Z7'.output⟩ vom _;obtain⟨N8,gs8,w8,sl8,t8,q8,g8,r8,z8,i8,⟨o,z,I8⟩,F8⟩:=eC (sl:=sl7) (fun _ _ _ h=>h) (fun g w h=>h.1) i7 G8 F7
 have Ec:∀b,b<w4.heap.size→w8.heap[b]?=w4.heap[b]?:=fun b hb=>by
  rw[I8.1,Z7'.old b vom,o6 b vom]
 refine⟨N2+(N3+(N4+(N5+(N6+(N7+N8))))),gs8,w4,w8,sl8,t8,q8,g8,H2.size,Fd,C1,C2,bF,bD,?_,by rw[z8,z7,z6,z5,z4,z3,z2],i8,o,z,F8,?_⟩
 ·rw[XM,r2]
  show runNT qf (N3+(N4+(N5+(N6+(N7+N8))))) (crowd gs2 w2 sl2) t2=_;rw[XM,r3];show runNT qf (N4+(N5+(N6+(N7+N8)))) (crowd gs3 w3 gP) t3=_;rw[XM,r4];show runNT qf (N5+(N6+(N7+N8))) (crowd gs4 w4 sl4) t4=_;rw[XM,r5];show runNT qf (N6+(N7+N8)) (crowd gs5 w5 sl5) t5=_;rw[XM,r6];show runNT qf (N7+N8) (crowd gs6 w6 sl6) t6=_;rw[XM,r7];exact r8
 ·exact⟨u,by rw[k4 _ vom,o3 _ vom];exact e2,by rw[k4 _ vom];exact d3,e4,m,Ec,by rw[I8.1,Z7'.old Fd vom];exact d6,⟨by have:=zc1.1;omega,by rw[I8.1];exact zc1.2⟩,⟨by have:=zc2.1;omega,by rw[I8.1];exact zc2.2⟩,E,⟨by have:=zb1.1;omega,by rw[I8.1];exact zb1.2⟩,⟨by have:=zb2.1;omega,by rw[I8.1];exact zb2.2⟩,I8.2.1,I8.2.2⟩
theorem G0(x0 x1 x2 x3 x4 x5 x6 x7 x8 x9 x10 x11 x12 x13:R2)(cst:fX)(bF bM bL bD bT:Nat)(a b c:R2)(g:Gm)(U:Nat→R2)(m:Nat→Nat)(fb:Nat→Nat→Int)(h:Int)(hE:sI g h=0)(hfit:∀r,r<g.n→g.nl r*8≤140737488355328)(hrl:g.rl*8≤140737488355328)(TT:TypeId)(fT:Nat×Nat)(wp:V8)
  (hpre:∀w,cst.Ok w→∀b,b<wp.heap.size→w.heap[b]?=wp.heap[b]?) (hfix:∀q,q<wp.heap.size→cst.Fix q)
  (hT:wp.heap[bT]?=some (.cells (bJ 3 U) TT fT)) (ha:DU wp a g.n g.wi g.nl g.no) (hb:aq wp b g.rl g.ri) (hc:aq wp c g.sl g.st) (ra:Rt wp a) (rb:Rt wp b) (rc:Rt wp c) (hU:∀i,i<3→aq wp (U i) (m i) (fb i)∧Rt wp (U i))
  (wk:Fj cst bF bM bL bD (.agg (aP a b c g.rf g.pl)) (.func (.func 34) #[] #[.pointer (some ⟨bT,0,none⟩)])) (hn:1≤cst.n∧cst.n≤1000) (hK:cst.K=26) (hz:cst.z1=.int .i64 0∧cst.z2=.bool false∧cst.MV=.tuple #[]∧cst.zs2=.tuple #[]) (hB:cst.fB=68) (har:cst.ar=fun k=>#[.agg (aP a b c g.rf g.pl),.int .i64 (k:Nat),.func (.func 34) #[] #[.pointer (some ⟨bT,0,none⟩)]]) (s1:1≤cst.S0) (d1:cst.C1<cst.N1∧cst.C2<cst.N1∧cst.Fd<cst.N1∧cst.C1≠cst.C2∧cst.C1≠cst.Fd∧cst.C2≠cst.Fd)
(cs:List Frame) {gs:Array Wi} {t:Trace} {q:Nat→Nat} {g0:Wi} {w:V8} (hS:cst.S0=gs.size) (h0:gs[0]?=some g0) (hq:Qt qf gs t q w.heap.size) {μ:Nat} (hw:Walk qf cst true (wM false cst bF bM bL bD cst.n (aL 11 #[x0,x1,x2,x3,x4,x5,x6,x7,x8,x9,x10,x11,x12,x13] [.inRegion M0 (3 :: List.range' 4 4),.code .ret] .run :: cs) 0) μ g0 w) (ok:cst.Ok w) (c1:w.heap[cst.C1]?=some (.chan 0 #[] false 0 0 false)) (c2:w.heap[cst.C2]?=some (.chan 0 #[] false 0 0 false)) (fd:∀j a ad,touchAt t j=some a→a.loc=.cell ad→ad.block≠cst.Fd) (sl:Option (Nat×Nat)) :
  ∃N gs' w' sl' t' q' V,∃v0 v2 v4 v6 v7 v8 v12 v13 v14 v15 v16 v17 v18 v19 v20 v21 v22 v23 v24 v25 v26 v27 v28 v29 v30 v31 v32 v33 v34 v35 v36 v37 v38 v39 v40 v41 v42 v43 v44 v45 v46 v47 v48 v49 v50 v51 v52:R2,runNT qf N (crowd gs w sl) t=(.next (crowd gs' w' sl'),t')∧gs'[0]?=some (G (aL 33 #[v0,.int .i64 (cst.n:Nat),v2,.pointer (some ⟨bM,0,none⟩),v4,.pointer (some ⟨bL,0,none⟩),v6,v7,v8,.pointer (some ⟨cst.Fd,0,none⟩),.pointer (some ⟨bF,0,none⟩),.pointer (some ⟨bD,0,none⟩),v12,v13,v14,v15,v16,v17,v18,v19,v20,v21,v22,v23,v24,v25,v26,v27,v28,v29,v30,v31,v32,v33,v34,v35,v36,v37,v38,v39,v40,v41,v42,v43,v44,v45,v46,v47,v48,v49,v50,v51,v52] [.code (Jn false)] .run) (aL 11 #[x0,x1,x2,x3,x4,x5,x6,x7,x8,x9,x10,x11,x12,x13] [.inRegion M0 (3 :: List.range' 4 4),.code .ret] .run :: cs))∧w'.heap[cst.Fd]?=some (.cells (bJ 26 V) cst.TF (0,0))∧(∀k,k<26→Np w' (V k) (cj g m fb k (26 ^ (g.n-1))) g.n)∧cst.Ok w'∧Qt qf gs' t' q' w'.heap.size:=by
 have hG:qf.globals.size≤aT.G:=R3 _;obtain⟨A,z,_,_⟩:=gI hE
 let S:=BK false (Post:=fun k v wl=>∃B,eK wl B v (cj g m fb k (26 ^ (g.n-1))) g.n) cst bF bM bL bD _ _ (aL 11 #[x0,x1,x2,x3,x4,x5,x6,x7,x8,x9,x10,x11,x12,x13] [.inRegion M0 (3 :: List.range' 4 4),.code .ret] .run :: cs) wk hn hK hz hB har s1 d1 (by rw[hB];kernel_rfl) (fun k hk w hw=>by
   obtain⟨E,wl,x,k1,k2,k3,k4,k5⟩:=GC k vom bT a b c g U m fb h hE hfit hrl TT fT wp hT ha hb hc ra rb rc hU;refine⟨E,wl,x,fun b q s o e=>⟨(k1 b q s o e).1,hfix q (k1 b q s o e).2⟩,by rw[har];exact k2,Fq k3 fun b x e=>?_,k4,fun τ=>?_⟩
   ·obtain⟨q,s,o⟩:=x
    exact hpre w hw q (k1 b q s o e).2
   ·rw[hB]
    refine(k5 τ).mono ?_;rintro e w' ⟨v,rfl,hv⟩;exact⟨v,rfl,_,hv⟩) (fun k v wl E v' hp hr=>by
   obtain⟨B,hp⟩:=hp;obtain⟨vs,⟨_,h2⟩,_⟩:=hp;generalize (cj g m fb k (26 ^ (g.n-1))).length=nn at h2;rcases h2 with⟨rfl,_⟩|⟨_,_,_,rfl,_⟩<;>cases hr<;>exact⟨_,_,_,rfl⟩)
 obtain⟨N1,gs1,w1,sl1,t1,q1,g1,r1,i1,jn,run1,Q1,ok1,RS,C,f⟩:=yh (S:=S) hG cG hS h0 hq hw ok c1 c2 fd sl;obtain⟨v0,v2,v4,v6,v7,v8,v12,v13,v14,v15,v16,v17,v18,v19,v20,v21,v22,v23,v24,v25,v26,v27,v28,v29,v30,v31,v32,v33,v34,v35,v36,v37,v38,v39,v40,v41,v42,v43,v44,v45,v46,v47,v48,v49,v50,v51,v52,rfl⟩:=jn;obtain⟨cs,l,y⟩:=ok1.fd;rw[hK]at y f
 have d:∀k,∃v,k<26→cs[k]?=some v∧Np w1 v (cj g m fb k (26 ^ (g.n-1))) g.n:=fun k=>by
  by_cases hk:k<26
  ·obtain⟨v,e1,E,vl,wl,⟨B,p1⟩,p2,p3,_⟩:=f k hk
   rw[Xf _ _ _ _ _ _ l]at e1;exact⟨v,fun _=>⟨e1,Gf p3 (by unfold maxLen;omega) p1 p2⟩⟩
  ·exact⟨.bool false,fun e=>absurd e hk⟩
 have u:cs=bJ 26 fun k=>(d k).choose:=by
  apply Xc;intro i;by_cases hi:i<26
  ·rw[aM _ hi]
   exact((d i).choose_spec hi).1
  ·rw[Wv vom,Wv (by rw[aU];omega)]
 rw[u]at l;exact⟨N1,gs1,w1,sl1,t1,q1,fun k=>(d k).choose,v0,v2,v4,v6,v7,v8,v12,v13,v14,v15,v16,v17,v18,v19,v20,v21,v22,v23,v24,v25,v26,v27,v28,v29,v30,v31,v32,v33,v34,v35,v36,v37,v38,v39,v40,v41,v42,v43,v44,v45,v46,v47,v48,v49,v50,v51,v52,r1,i1,l,fun k hk=>((d k).choose_spec hk).2,ok1,Q1⟩
end
end Go.Proofs.YtpcnpkhgjanamaaGreatDoor
