import Derived.Test.YtpcnpkhgjanamaaGreatDoorPz
import Derived.Test.YtpcnpkhgjanamaaGreatDoorPoP
namespace Go.Proofs.YtpcnpkhgjanamaaGreatDoor
open Go.Proofs.Tryz renaming prog→qf
open Go renaming Value→R2,World→V8
open _root_.List renaming range→WO,nodup_iff_pairwise_ne→YM
open Go.Conc renaming mem_listed→Xi,goes_oper_k→XC
set_option maxRecDepth 100000
set_option maxHeartbeats 4000000
section
open Go.RowKit PK Vg Go.Conc Cs
variable{hv:Bool}
theorem QB:(U7 hv)=.region 7 (mO hv) true:=by cases hv<;>kernel_rfl
theorem Rf(Fd:Nat):Terms AtRel (DN Fd):=⟨atRel_trans,j6⟩
theorem Td(Fd:Nat):LetsDraw (DN Fd):=fun w=>⟨R3 _,fun e he=>by simp at he⟩
theorem FE{H:Array Obj}{o:Os}{out:Array (Nat×ByteArray)}{n bM bL Fd:Nat}{p q r s v0 v2 v4 v6 v7 v8 v12 v13 v14 v15 v16 v17 v18 v19 v20 v21 v22 v23 v26 v27 v28 v29 v30 v31 v32 v33 v34 v35 v36 v37 v38 v39 v40 v41 v42 v43 v44 v45 v46 v47 v48 v49 v50 v51 v52:R2}{w:V8}(hF:Fd<H.size)(hz:Z7 H o out w)(cs:List Frame):∃mu,Goes qf true AtRel (DN Fd) (fun g w'=>∃(C1 C2 bF bD:Nat) (v0 v2 v4 v6 v7 v8 v12 v13 v14 v15 v16 v17 v18 v19 v20 v21 v22 v23 v26 v27 v28 v29 v30 v31 v32 v33 v34 v35 v36 v37 v38 v39 v40 v41 v42 v43 v44 v45 v46 v47 v48 v49 v50 v51 v52:R2),g=G ((eB hv).at ⟨#[v0,.int .i64 (n:Nat),v2,.pointer (some ⟨bM,0,none⟩),v4,.pointer (some ⟨bL,0,none⟩),v6,v7,v8,.pointer (some ⟨Fd,0,none⟩),.pointer (some ⟨bF,0,none⟩),.pointer (some ⟨bD,0,none⟩),v12,v13,v14,v15,v16,v17,v18,v19,v20,v21,v22,v23,.chan (some C1),.chan (some C2),v26,v27,v28,v29,v30,v31,v32,v33,v34,v35,v36,v37,v38,v39,v40,v41,v42,v43,v44,v45,v46,v47,v48,v49,v50,v51,v52],[]⟩ [.code (Ab hv)]) cs∧Z7 H o out w'∧ZC H w' C1∧ZC H w' C2∧C1≠C2∧ZB H w' bF 110 (.chan (some C1))∧ZB H w' bD 111 (.chan (some C2))) mu (G ((eB hv).at ⟨#[v0,.int .i64 (n:Nat),v2,.pointer (some ⟨bM,0,none⟩),v4,.pointer (some ⟨bL,0,none⟩),v6,v7,v8,.pointer (some ⟨Fd,0,none⟩),r,s,v12,v13,v14,v15,v16,v17,v18,v19,v20,v21,v22,v23,p,q,v26,v27,v28,v29,v30,v31,v32,v33,v34,v35,v36,v37,v38,v39,v40,v41,v42,v43,v44,v45,v46,v47,v48,v49,v50,v51,v52],[]⟩ [.code (U7 hv),.code (Ab hv)]) cs) w:=by
 have h:=wpC_region_held (P:=qf) (main:=true) (fn:=(eN hv)) (ops:=(mO hv)) (Q:=Q7 H o out n bM bL Fd) (S:=fun _=>True) (Rf Fd) (Td Fd) (id:=7) (a:=⟨#[v0,.int .i64 (n:Nat),v2,.pointer (some ⟨bM,0,none⟩),v4,.pointer (some ⟨bL,0,none⟩),v6,v7,v8,.pointer (some ⟨Fd,0,none⟩),r,s,v12,v13,v14,v15,v16,v17,v18,v19,v20,v21,v22,v23,p,q,v26,v27,v28,v29,v30,v31,v32,v33,v34,v35,v36,v37,v38,v39,v40,v41,v42,v43,v44,v45,v46,v47,v48,v49,v50,v51,v52],[]⟩) (w:=w) (by cases hv<;>kernel_rfl) (fun w₁ h₁=>by
  obtain⟨d,rfl⟩:=h₁;cases hv<;>exact Ub hF ⟨hz.old,hz.size,hz.os,hz.output⟩)
 rw[QB];refine⟨0+_,wpC_goes h (by cases hv<;>rfl) (by cases hv<;>decide) (fun e a' w' hQ=>?_)⟩;obtain⟨rfl,C1,C2,bF,bD,v0,v2,v4,v6,v7,v8,v12,v13,v14,v15,v16,v17,v18,v19,v20,v21,v22,v23,v26,v27,v28,v29,v30,v31,v32,v33,v34,v35,v36,v37,v38,v39,v40,v41,v42,v43,v44,v45,v46,v47,v48,v49,v50,v51,v52,rfl,z,k0,k1,kn,k2,k3⟩:=hQ
 exact Goes.stop fun w₂ h₂=>by
  obtain⟨d,rfl⟩:=h₂;exact⟨C1,C2,bF,bD,_,_,_,_,_,_,_,_,_,_,_,_,_,_,_,_,_,_,_,_,_,_,_,_,_,_,_,_,_,_,_,_,_,_,_,_,_,_,_,_,_,_,_,_,_,rfl,z.at' d,k0,k1,kn,k2,k3⟩
theorem Ff{H:Array Obj}{o:Os}{out:Array (Nat×ByteArray)}{n bM bL Fd C1 C2 bF bD:Nat}{v0 v2 v4 v6 v7 v8 v12 v13 v14 v15 v16 v17 v18 v19 v20 v21 v22 v23 v26 v27 v28 v29 v30 v31 v32 v33 v34 v35 v36 v37 v38 v39 v40 v41 v42 v43 v44 v45 v46 v47 v48 v49 v50 v51 v52:R2}{w:V8}(hI:HI H o out w)(hn:1≤n)(cs:List Frame):∃mu,Goes qf true AtRel (DN Fd) (fun g w'=>g.status=.running∧(∀c:fX,c.Fd=Fd→wM hv c bF bM bL bD n cs 0 g)∧HI H o out w') mu (G ((eB hv).at ⟨#[v0,.int .i64 (n:Nat),v2,.pointer (some ⟨bM,0,none⟩),v4,.pointer (some ⟨bL,0,none⟩),v6,v7,v8,.pointer (some ⟨Fd,0,none⟩),.pointer (some ⟨bF,0,none⟩),.pointer (some ⟨bD,0,none⟩),v12,v13,v14,v15,v16,v17,v18,v19,v20,v21,v22,v23,.chan (some C1),.chan (some C2),v26,v27,v28,v29,v30,v31,v32,v33,v34,v35,v36,v37,v38,v39,v40,v41,v42,v43,v44,v45,v46,v47,v48,v49,v50,v51,v52],[]⟩ [.code (Ab hv)]) cs) w:=by
 have a:decide (0<n)=true:=vso;refine⟨60,?_⟩;cases hv
 all_goals
  simp only[Ab,dK,pk,Tryz.f33,Tryz.f27,Ww]
  repeat(refine iP hI rfl (fun w₁ h₁=>?_);walk_rw;refine⟨j6 _,?_⟩;clear hI;have hI:=h₁;clear h₁)
  refine iP hI rfl (fun w₁ h₁=>?_);refine XC rfl rfl vde (fun K hK=>?_);go_simp;refine hK _ _ ⟨⟨vsi,fun e he=>?_⟩,?_⟩
  ·have hm:=Xi he
   simp[go_sem]at hm
  clear hK K hI;have hI:=h₁;clear h₁;refine iP hI rfl (fun w₁ h₁=>?_);refine XC rfl rfl vde (fun K hK=>?_);go_simp;refine hK _ _ ⟨⟨vsi,fun e he=>?_⟩,?_⟩
  ·have hm:=Xi he
   simp[go_sem]at hm
  clear hK K hI;have hI:=h₁;clear h₁
  repeat(refine iP hI rfl (fun w₁ h₁=>?_);walk_rw;refine⟨j6 _,?_⟩;clear hI;have hI:=h₁;clear h₁)
  refine iP hI rfl (fun w₁ h₁=>?_);refine XC rfl rfl vde (fun K hK=>?_);go_simp;refine hK _ _ ⟨⟨vsi,fun e he=>?_⟩,?_⟩
  ·have hm:=Xi he
   simp[go_sem]at hm
  clear hK K hI;have hI:=h₁;clear h₁
  repeat(refine iP hI rfl (fun w₁ h₁=>?_);walk_rw;refine⟨j6 _,?_⟩;clear hI;have hI:=h₁;clear h₁)
  refine iP hI rfl (fun w₁ h₁=>?_);rw[stepG_cond (t:=true) rfl];simp only[goes_go,↓reduceIte];refine⟨j6 _,?_⟩;clear hI;have hI:=h₁;clear h₁
  repeat(refine iP hI rfl (fun w₁ h₁=>?_);walk_rw;refine⟨j6 _,?_⟩;clear hI;have hI:=h₁;clear h₁)
  refine iP hI rfl (fun w₁ h₁=>?_);refine XC rfl rfl vde (fun K hK=>?_);go_simp;refine hK _ _ ⟨⟨vsi,fun e he=>?_⟩,?_⟩
  ·have hm:=Xi he
   simp[go_sem]at hm
  clear hK K hI;have hI:=h₁;clear h₁
  exact Goes.stop fun w₂ h₂=>by
   obtain⟨d,rfl⟩:=h₂;refine⟨rfl,fun c hc=>?_,hI⟩;subst hc;exact⟨_,_,_,_,_,_,_,_,_,_,_,_,_,_,_,_,_,_,_,_,_,_,_,_,_,_,_,_,_,_,_,_,_,_,_,_,_,_,_,_,_,_,_,_,rfl⟩
end
namespace Bo
open Go.Proofs.YtpcnpkhgjanamaaGreatDoor PK
structure Mn where
 k:Nat
 x:Nat→Nat
 y:Nat→Nat
 s:Nat→Nat→Nat
structure Mn.Ok(m:Mn):Prop where
 x:∀i,i<m.k→m.x i<26
 y:∀i,i<m.k→m.y i<26
 s:∀i,i<m.k→∀c,c<26→m.s i c<26
inductive nP(m:Mn)(a b:Nat):Nat→Nat→Prop
 |base:nP m a b a b
 |sym {x y:Nat}:nP m a b x y→nP m a b y x
 |fwd {i y:Nat}:i<m.k→nP m a b (m.x i) y→nP m a b (m.y i) (m.s i y)
 |bwd {i y:Nat}:i<m.k→nP m a b (m.y i) y→nP m a b (m.x i) (m.s i y)
theorem nP.lt{m:Mn}(h:m.Ok){a b:Nat}(ha:a<26)(hb:b<26){x y:Nat}(hd:nP m a b x y):x<26∧y<26:=by
 induction hd with
 |base=>exact⟨ha,hb⟩
 |sym _ ih=>exact⟨ih.2,ih.1⟩
 |fwd hi _ ih=>exact⟨h.y _ hi,h.s _ hi _ ih.2⟩
 |bwd hi _ ih=>exact⟨h.x _ hi,h.s _ hi _ ih.2⟩
def Sub(m:Mn)(a b:Nat)(p:Nat→Int):Prop:=∀x,x<26→p x=-1∨∃y:Nat,y<26∧p x=(y:Int)∧nP m a b x y
structure Closed(m:Mn)(a b:Nat)(p:Nat→Int):Prop where
 base:p a=(b:Nat)
 sym:∀x y:Nat,x<26→p x=(y:Int)→p y=(x:Nat)
 fwd:∀i y:Nat,i<m.k→p (m.x i)=(y:Int)→p (m.y i)=(m.s i y:Nat)
 bwd:∀i y:Nat,i<m.k→p (m.y i)=(y:Int)→p (m.x i)=(m.s i y:Nat)
theorem Closed.all{m:Mn}(h:m.Ok){a b:Nat}(ha:a<26)(hb:b<26){p:Nat→Int}(hc:Closed m a b p){x y:Nat}(hd:nP m a b x y):p x=(y:Int):=by
 induction hd with
 |base=>exact hc.base
 |sym h1 ih=>exact hc.sym _ _ (h1.lt h ha hb).1 ih
 |fwd hi _ ih=>exact hc.fwd _ _ hi ih
 |bwd hi _ ih=>exact hc.bwd _ _ hi ih
def Da(m:Mn)(a b:Nat):Prop:=∃x y z:Nat,nP m a b x y∧nP m a b x z∧y≠z
def tq(m:Mn)(a b:Nat)(ok:Bool)(p:Nat→Int):Prop:=(ok=true∧Sub m a b p∧Closed m a b p)∨(ok=false∧Da m a b∧p=fun _=>0)
theorem Closed.vX{m:Mn}(h:m.Ok){a b:Nat}(ha:a<26)(hb:b<26){p:Nat→Int}(hc:Closed m a b p):¬Da m a b:=by
 rintro⟨x,y,z,h1,h2,h3⟩;have e1:=hc.all h ha hb h1;have e2:=hc.all h ha hb h2;rw[e1]at e2;exact h3 vom
theorem tq.unique{m:Mn}(h:m.Ok){a b:Nat}(ha:a<26)(hb:b<26){o1 o2:Bool}{p1 p2:Nat→Int}(h1:tq m a b o1 p1)(h2:tq m a b o2 p2):o1=o2∧∀x,x<26→p1 x=p2 x:=by
 rcases h1 with⟨e1,s1,c1⟩|⟨e1,f1,q1⟩<;>rcases h2 with⟨e2,s2,c2⟩|⟨e2,f2,q2⟩
 ·refine⟨by rw[e1,e2],fun x hx=>?_⟩
  rcases s1 x hx with n1|⟨y,hy,ey,dy⟩
  ·rcases s2 x hx with n2|⟨z,hz,ez,dz⟩
   ·rw[n1,n2]
   ·have:=c1.all h ha hb dz
    rw[n1]at this;omega
  ·rw[ey,c2.all h ha hb dy]
 ·exact absurd f2 (c1.vX h ha hb)
 ·exact absurd f1 (c2.vX h ha hb)
 ·exact⟨by rw[e1,e2],fun x _=>by rw[q1,q2]⟩
theorem Es{m:Mn}(h:m.Ok){a b:Nat}(ha:a<26)(hb:b<26):∃ok p,tq m a b ok p:=by
 by_cases hc:Da m a b
 ·exact⟨false,fun _=>0,.inr ⟨rfl,hc,rfl⟩⟩
 ·have c:∀x y z:Nat,nP m a b x y→nP m a b x z→y=z:=fun x y z h1 h2=>by
   by_cases e:y=z
   ·exact e
   ·exact absurd ⟨x,y,z,h1,h2,e⟩ hc
  have d:∀x:Nat,∃v:Int,(v=-1∧∀y,¬nP m a b x y)∨∃y:Nat,v=(y:Int)∧nP m a b x y:=fun x=>by
   by_cases e:∃y,nP m a b x y
   ·obtain⟨y,hy⟩:=e
    exact⟨(y:Int),.inr ⟨y,rfl,hy⟩⟩
   ·exact⟨-1,.inl ⟨rfl,fun y hy=>e ⟨y,hy⟩⟩⟩
  obtain⟨p,hp⟩:=Classical.skolem.1 d
  have hs:∀x y:Nat,p x=(y:Int)→nP m a b x y:=fun x y e=>by
   rcases hp x with⟨e1,_⟩|⟨z,e1,hz⟩
   ·rw[e]at e1;omega
   ·have:y=z:=vom
    rw[this];exact hz
  have ht:∀x y:Nat,nP m a b x y→p x=(y:Int):=fun x y hd=>by
   rcases hp x with⟨_,e1⟩|⟨z,e1,hz⟩
   ·exact absurd hd (e1 y)
   ·rw[e1,c x y z hd hz]
  refine⟨true,p,.inl ⟨rfl,fun x _=>?_,ht _ _ .base,fun x y _ e=>ht _ _ (hs _ _ e).sym,fun i y hi e=>ht _ _ (nP.fwd hi (hs _ _ e)),fun i y hi e=>ht _ _ (nP.bwd hi (hs _ _ e))⟩⟩;rcases hp x with⟨e1,_⟩|⟨z,e1,hz⟩
  ·exact .inl e1
  ·exact .inr ⟨z,(hz.lt h ha hb).2,e1,hz⟩
def ml(m:Mn)(c:Nat):Nat→List (Nat×Nat)
 |0=>[]
 |i+1=>(ml m c i++if m.x i=c then[(i,m.y i)]else[])++if m.y i=c then[(i,m.x i)]else[]
theorem TD(m:Mn){i:Nat}:∀n,i<n→(i,m.y i)∈ml m (m.x i) n
 |0,h=>by omega
 |n+1,h=>by
  unfold ml;by_cases e:i=n
  ·subst e
   simp
  ·exact X7.2 (.inl (X7.2 (.inl (TD m n (Nat.lt_of_le_of_ne (Nat.le_of_lt_succ h) e)))))
theorem TP(m:Mn){i:Nat}:∀n,i<n→(i,m.x i)∈ml m (m.y i) n
 |0,h=>by omega
 |n+1,h=>by
  unfold ml;by_cases e:i=n
  ·subst e
   simp
  ·exact X7.2 (.inl (X7.2 (.inl (TP m n (Nat.lt_of_le_of_ne (Nat.le_of_lt_succ h) e)))))
theorem Ep(m:Mn)(c:Nat){q:Nat×Nat}:∀n,q∈ml m c n→q.1<n∧((m.x q.1=c∧q.2=m.y q.1)∨(m.y q.1=c∧q.2=m.x q.1))
 |0,h=>by simp[ml]at h
 |n+1,h=>by
  unfold ml at h;rcases X7.1 h with h|h
  ·rcases X7.1 h with h|h
   ·have:=Ep m c n h
    exact⟨vom,this.2⟩
   ·by_cases e:m.x n=c
    ·rw[Wc e]at h
     simp at h;subst h;exact⟨vsi,.inl ⟨e,rfl⟩⟩
    ·rw[V9 e]at h
     simp at h
  ·by_cases e:m.y n=c
   ·rw[Wc e]at h
    simp at h;subst h;exact⟨vsi,.inr ⟨e,rfl⟩⟩
   ·rw[V9 e]at h
    simp at h
theorem CY(m:Mn)(c:Nat):∀n,(ml m c n).length≤2*n
 |0=>by simp[ml]
 |n+1=>by
  have:=CY m c n;unfold ml;rw[WM,WM];by_cases e1:m.x n=c<;>by_cases e2:m.y n=c<;>simp[e1,e2]<;>omega
def most(f:Nat→Nat):Nat→Nat
 |0=>0
 |k+1=>if f (most f k)<f k then k else most f k
theorem yW(f:Nat→Nat):∀k,most f k<k∨most f k=0
 |0=>.inr rfl
 |k+1=>by
  unfold most;rcases yW f k with h|h<;>by_cases e:f (most f k)<f k
  ·rw[Wc e];exact .inl vom
  ·rw[V9 e];exact .inl vom
  ·rw[Wc e];exact .inl vom
  ·rw[V9 e];exact .inr h
theorem zY(f:Nat→Nat):most f 26<26:=by
 rcases yW f 26 with h|h
 ·exact h
 ·omega
structure qT(m:Mn)(a b:Nat)(p:Nat→Int)(s:Nat→Nat)(n:Nat):Prop where
 lt:∀j,j<n→s j<26
 inj:∀i j,i<n→j<n→s i=s j→i=j
 set:∀j,j<n→p (s j)≠-1
 all:∀x,x<26→p x≠-1→∃j,j<n∧s j=x
 sub:Sub m a b p
theorem qT.le{m:Mn}{a b:Nat}{p:Nat→Int}{s:Nat→Nat}{n:Nat}(h:qT m a b p s n):n≤26:=by
 have hn:((WO n).map s).Nodup:=by
  rw[YM,List.pairwise_map];refine List.Pairwise.imp_of_mem ?_ (YM.1 (Yt (n:=n)));intro i j hi hj hne e;exact hne (h.inj i j (by simpa using hi) (by simpa using hj) e)
 have:=Pm.dP ((WO n).map s) (WO 26) hn (fun x hx=>by
  obtain⟨j,hj,rfl⟩:=Yh.1 hx;simpa using h.lt j (by simpa using hj))
 simpa using this
theorem qT.P4{m:Mn}{a b:Nat}{p:Nat→Int}{s:Nat→Nat}{n:Nat}(h:qT m a b p s n){x:Nat}(hx:x<26)(hp:p x=-1):n<26:=by
 have h1:=h.le;by_cases e:n=26
 ·exfalso
  have hn:((WO n).map s++[x]).Nodup:=by
   rw[List.nodup_append];refine⟨?_,vsi,?_⟩
   ·rw[YM,List.pairwise_map]
    refine List.Pairwise.imp_of_mem ?_ (YM.1 (Yt (n:=n)));intro i j hi hj hne e;exact hne (h.inj i j (by simpa using hi) (by simpa using hj) e)
   ·intro u hu v hv e2
    obtain⟨j,hj,rfl⟩:=Yh.1 hu;have hv':v=x:=by simpa using hv
    subst hv';exact h.set j (by simpa using hj) (by rw[e2];exact hp)
  have:=Pm.dP _ (WO 26) hn (fun u hu=>by
   rcases X7.1 hu with hu|hu
   ·obtain⟨j,hj,rfl⟩:=Yh.1 hu
    simpa using h.lt j (by simpa using hj)
   ·have:u=x:=by simpa using hu
    subst this;simpa using hx)
  simp at this;omega
 ·omega
theorem qT.put{m:Mn}{a b:Nat}{p:Nat→Int}{s:Nat→Nat}{n:Nat}(h:qT m a b p s n){x y:Nat}(hx:x<26)(hy:y<26)(hp:p x=-1)(hd:nP m a b x y):qT m a b (upd p x (y:Int)) (fun j=>if j=n then x else s j) (n+1):=by
 refine⟨fun j hj=>?_,fun i j hi hj=>?_,fun j hj=>?_,fun u hu hp2=>?_,fun u hu=>?_⟩
 ·show(if j=n then x else s j)<26
  by_cases e:j=n
  ·rw[Wc e];exact hx
  ·rw[V9 e];exact h.lt j vom
 ·show(if i=n then x else s i)=(if j=n then x else s j)→i=j
  by_cases e1:i=n<;>by_cases e2:j=n
  ·intro _;omega
  ·rw[Wc e1,V9 e2]
   intro e;exact absurd (by rw[←e];exact hp) (h.set j vom)
  ·rw[V9 e1,Wc e2]
   intro e;exact absurd (by rw[e];exact hp) (h.set i vom)
  ·rw[V9 e1,V9 e2]
   exact h.inj i j vom vom
 ·show upd p x (y:Int) (if j=n then x else s j)≠-1
  unfold upd;by_cases e:j=n
  ·rw[Wc e,Wc rfl];omega
  ·rw[V9 e]
   by_cases e2:s j=x
   ·rw[Wc e2];omega
   ·rw[V9 e2];exact h.set j vom
 ·unfold upd at hp2
  by_cases e:u=x
  ·exact⟨n,vom,by show(if n=n then x else s n)=u;rw[Wc rfl,e]⟩
  ·rw[V9 e]at hp2
   obtain⟨j,hj,e2⟩:=h.all u hu hp2;exact⟨j,vom,by show(if j=n then x else s j)=u;rw[V9 vom,e2]⟩
 ·unfold upd
  by_cases e:u=x
  ·rw[Wc e]
   exact .inr ⟨y,hy,rfl,by rw[e];exact hd⟩
  ·rw[V9 e];exact h.sub u hu
def Done(m:Mn)(p:Nat→Int)(x:Nat):Prop:=∃y:Nat,p x=(y:Int)∧p y=(x:Nat)∧∀q,q∈ml m x m.k→p q.2=(m.s q.1 y:Nat)
def Ext(p q:Nat→Int):Prop:=∀x (y:Nat),p x=(y:Int)→q x=(y:Int)
theorem Ext.refl(p:Nat→Int):Ext p p:=fun _ _ h=>h
theorem Ext.trans{p q r:Nat→Int}(h:Ext p q)(h':Ext q r):Ext p r:=fun x y e=>h' x y (h x y e)
theorem Ext.put{p:Nat→Int}{x:Nat}(y:Int)(hp:p x=-1):Ext p (upd p x y):=fun u v e=>by
 unfold upd;by_cases e2:u=x
 ·rw[e2,hp]at e;omega
 ·rw[V9 e2];exact e
theorem Done.ext{m:Mn}{p q:Nat→Int}{x:Nat}(h:Done m p x)(he:Ext p q):Done m q x:=by
 obtain⟨y,h1,h2,h3⟩:=h;exact⟨y,he _ _ h1,he _ _ h2,fun r hr=>he _ _ (h3 r hr)⟩
theorem I7{m:Mn}(hm:m.Ok){a b:Nat}{p:Nat→Int}{s:Nat→Nat}{n:Nat}(h:qT m a b p s n)(hb:p a=(b:Nat))(hd:∀j,j<n→Done m p (s j)):Closed m a b p:=by
 have c:∀x y:Nat,x<26→p x=(y:Int)→Done m p x:=fun x y hx e=>by
  obtain⟨j,hj,e2⟩:=h.all x hx (by rw[e];omega);rw[←e2];exact hd j hj
 refine⟨hb,fun x y hx e=>?_,fun i y hi e=>?_,fun i y hi e=>?_⟩
 ·obtain⟨z,h1,h2,_⟩:=c x y hx e
  have:y=z:=by rw[e]at h1;omega
  rw[this];exact h2
 ·obtain⟨z,h1,_,h3⟩:=c _ y (hm.x i hi) e
  have:y=z:=by rw[e]at h1;omega
  rw[this];exact h3 (i,m.y i) (TD m m.k hi)
 ·obtain⟨z,h1,_,h3⟩:=c _ y (hm.y i hi) e
  have:y=z:=by rw[e]at h1;omega
  rw[this];exact h3 (i,m.x i) (TP m m.k hi)
theorem Kc{m:Mn}{a b x y:Nat}{q:Nat×Nat}(hq:q∈ml m x m.k)(hd:nP m a b x y):nP m a b q.2 (m.s q.1 y):=by
 obtain⟨h1,⟨h2,h3⟩|⟨h2,h3⟩⟩:=Ep m x m.k hq
 ·rw[h3];exact nP.fwd h1 (by rw[h2];exact hd)
 ·rw[h3];exact nP.bwd h1 (by rw[h2];exact hd)
def cs(p:Nat→Int):Nat:=((WO 26).filter fun x=>decide (0≤p x)).length
end Bo
section
open Go.RowKit PK Vg
def CU(a b:Nat)(p:Nat→Int):Nat→Int:=fun i=>if i=0 then(a:Nat)else if i=1 then(b:Nat)else p (i-2)
theorem Ai(a b:Nat)(p:Nat→Int):qf.built 48 [(0,.int .i64 (a:Nat)),(1,.int .i64 (b:Nat)),(2,.agg (ints 26 p))]=some (ints 28 (CU a b p)):=vkr
theorem yZ:(qf.info? 48).map (fun i=>(i.zero,i.size,i.bytes))=some (some (.agg (ints 28 fun _=>0)),28,224):=vkr
theorem zw:(qf.info? 48).map (fun i=>(i.zero,i.size))=some (some (.agg (ints 28 fun _=>0)),28):=vkr
theorem qi:(qf.info? 48).map (·.size)=some 28:=vkr
def gl(g:Nat→Nat→Int)(L:List Nat):Nat→Int:=fun i=>g (L.getD (i / 28) 0) (i % 28)
theorem Ng(g:Nat→Nat→Int)(L:List Nat)(b:Nat):(ints (L.length*28) (gl g L)).toList++(ints 28 (g b)).toList=(ints ((L++[b]).length*28) (gl g (L++[b]))).toList:=by
 rw[←Array.toList_append];refine XI Array.toList ?_;have a:(L++[b]).length=L.length+1:=vsi;rw[a];apply Xc;intro i;by_cases h1:i<L.length*28
 ·rw[Array.getElem?_append_left (by rw[ag];exact h1),aB _ h1,aB _ vom]
  unfold gl;rw[Xu,Xu,WS vom]
 ·rw[Array.getElem?_append_right (by rw[ag];omega),ag]
  by_cases h2:i<(L.length+1)*28
  ·rw[aB _ vom,aB _ h2]
   unfold gl;rw[show i / 28=L.length by omega,show i % 28=i-L.length*28 by omega,Xu,WQ vom];simp
  ·rw[Wv (by rw[ag];omega),Wv (by rw[ag];omega)]
theorem Lp{n:Nat}{f:Nat→Int}{i:Nat}{v:R2}(h:(ints n f).toList[i]?=some v):i<n∧v=.int .i64 (f i):=by
 have h1:=(WW.1 h).1;rw[Wx,ag]at h1;rw[Wo,aB _ h1]at h;exact⟨h1,by cases h;rfl⟩
def iK(W:V8)(B:Nat)(v:R2)(g:Nat→Nat→Int)(L:List Nat):Prop:=W.ownsRow B 48 28 v L.length (ints (L.length*28) (gl g L)).toList
def Dg(W:V8)(v:R2)(g:Nat→Nat→Int)(L:List Nat):Prop:=∃(a:Option Addr) (cap:Nat),v=.slice a L.length cap∧∀j,j<L.length→∃b,a=some ⟨b,0,none⟩∧W.rangeAt b (j*28) (ints 28 (g (L.getD j 0))).toList
theorem Dg.below{W W':V8}{v:R2}{g:Nat→Nat→Int}{L:List Nat}(h:Dg W v g L)(hb:Below W.heap.size W W'):Dg W' v g L:=by
 obtain⟨a,cap,e,h1⟩:=h;refine⟨a,cap,e,fun j hj=>?_⟩;obtain⟨b,eb,h2⟩:=h1 j hj;refine⟨b,eb,fun i v hv=>?_⟩;exact(hb.cell (p:=⟨b,j*28+i,none⟩) (aA (h2 i v hv))).trans (h2 i v hv)
def fO(ok:Nat→Bool)(k:Nat):List Nat:=(WO k).filter ok
theorem Rb{ok:Nat→Bool}{k:Nat}(h:ok k=true):fO ok (k+1)=fO ok k++[k]:=by
 unfold fO;rw[ZI,Yu];simp[h]
theorem Ug{ok:Nat→Bool}{k:Nat}(h:ok k=false):fO ok (k+1)=fO ok k:=by
 unfold fO;rw[ZI,Yu];simp[h]
theorem zo(ok:Nat→Bool)(k:Nat):(fO ok k).length≤k:=by
 have:=ZP ok (WO k);unfold fO;simpa using this
structure Hl where
 n:Nat
 gs:Nat→Nat→Nat→Int
 lg:Nat→List Nat
def Hl.p(h:Hl)(N:Nat):Bool:=decide (0<(h.lg N).length)
def Hl.bU(h:Hl)(j:Nat):List Nat:=(WO j).filter h.p
def Hl.fY(h:Hl)(k j:Nat):List Nat:=((WO j).map fun i=>k*26 ^ (h.n-1)+i).filter h.p
theorem filter_one(p:Nat→Bool)(X:Nat):List.filter p [X]=if p X=true then[X]else[]:=by
 cases h:p X<;>simp[List.filter,h]
theorem Hl.xG(h:Hl)(k j:Nat):h.fY k (j+1)=h.fY k j++if h.p (k*26 ^ (h.n-1)+j)=true then[k*26 ^ (h.n-1)+j]else[]:=by
 unfold Hl.fY;rw[ZI,List.map_append,Yu,Y9,List.map_nil,filter_one]
theorem Hl.K2(h:Hl)(j:Nat):h.bU (j+1)=h.bU j++if h.p j=true then[j]else[]:=by
 unfold Hl.bU;rw[ZI,Yu,filter_one]
theorem Hl.Bv(h:Hl)(k j:Nat):(h.fY k j).length≤j:=by
 unfold Hl.fY;refine Ws (ZP _ _) ?_;simp
theorem Hl.NL(h:Hl)(j:Nat):(h.bU j).length≤j:=by
 unfold Hl.bU;refine Ws (ZP _ _) ?_;simp
theorem Hl.y5(h:Hl)(k j:Nat):h.bU (k*26 ^ (h.n-1)+j)=h.bU (k*26 ^ (h.n-1))++h.fY k j:=by
 induction j with
 |zero=>simp[Hl.fY]
 |succ j ih=>rw[←XS,Hl.K2,ih,Hl.xG,List.append_assoc]
theorem Hl.Bd(h:Hl){j k N:Nat}(e:(h.bU j)[k]?=some N):h.p N=true∧N<j:=by
 have hm:=List.mem_of_getElem? e;unfold Hl.bU at hm;rw[Yj,List.mem_range]at hm;exact⟨hm.2,hm.1⟩
def kE(W:V8)(us ug:R2)(h:Hl)(N:Nat):Prop:=(MW W us h.n fun i=>((dx h.n N i:Nat):Int))∧∃B,iK W B ug (h.gs N) (h.lg N)
theorem iK.step{W W':V8}{B:Nat}{v:R2}{g:Nat→Nat→Int}{L:List Nat}(h:iK W B v g L)(hb:Below W.heap.size W W'):iK W' B v g L:=kr h hb
theorem kE.below{W W':V8}{us ug:R2}{h:Hl}{N:Nat}(k:kE W us ug h N)(hb:Below W.heap.size W W'):kE W' us ug h N:=⟨k.1.below hb,by
 obtain⟨B,hB⟩:=k.2;exact⟨B,hB.step hb⟩⟩
theorem BQ{W W':V8}{B n s g:Nat}{T TE:TypeId}{v:R2}{vs:List R2}{c:Array R2}(hT:T≠TE)(hr:af W g T c)(ho:W.ownsRow B TE s v n vs)(hg:W.grownBy W' v.ownBlock):af W' g T c:=by
 refine(hg.block g hr.lt fun e=>?_).trans hr;rcases ho.2 with⟨rfl,_⟩|⟨p,cap,cur,rfl,_,hp,_⟩
 ·cases e
 ·have e':some g=some p:=e
  cases e';have:some (Obj.cells c T (0,0))=some (Obj.cells cur TE (0,0)):=hr.symm.trans hp;injection this with this;injection this with _ this;exact absurd this hT
theorem sF{W W':V8}{B B' n n' s s':Nat}{T TE:TypeId}{u v:R2}{us vs:List R2}(hT:T≠TE)(hu:W.ownsRow B' T s' u n' us)(ho:W.ownsRow B TE s v n vs)(hg:W.grownBy W' v.ownBlock):W'.ownsRow B' T s' u n' us:=by
 obtain⟨h1,h2⟩:=hu;exact⟨h1,h2.imp id fun⟨g,cap,cur,e,hB,hc,h3⟩=>⟨g,cap,cur,e,hB,BQ hT hc ho hg,h3⟩⟩
theorem kE.grown{W W':V8}{us ug v:R2}{h:Hl}{N B n:Nat}{vs:List R2}(k:kE W us ug h N)(ho:W.ownsRow B 46 2 v n vs)(hg:W.grownBy W' v.ownBlock):kE W' us ug h N:=by
 obtain⟨⟨B1,k1⟩,B2,k2⟩:=k;exact⟨⟨B1,sF vde k1 ho hg⟩,B2,sF vde (show W.ownsRow _ 48 28 _ _ _ from k2) ho hg⟩
def xd(W:V8)(B:Nat)(v:R2)(L:List Nat)(h:Hl):Prop:=∃vs:List R2,W.ownsRow B 46 2 v L.length vs∧∀(k N:Nat),L[k]?=some N→∃us ug,vs[2*k]?=some us∧vs[2*k+1]?=some ug∧kE W us ug h N
theorem xd.nil(W:V8)(B:Nat)(h:Hl):xd W B (.slice none 0 0) [] h:=⟨[],World.ownsRow_nil W B _ 2,fun k N e=>by simp at e⟩
theorem xd.below{W W':V8}{B:Nat}{v:R2}{L:List Nat}{h:Hl}(k:xd W B v L h)(hb:Below W.heap.size W W'):xd W' B v L h:=by
 obtain⟨vs,h1,h2⟩:=k;refine⟨vs,kr h1 hb,fun k N e=>?_⟩;obtain⟨us,ug,a,b,c⟩:=h2 k N e;exact⟨us,ug,a,b,c.below hb⟩
theorem xd.mono{W:V8}{B B':Nat}{v:R2}{L:List Nat}{h:Hl}(k:xd W B v L h)(hB:B'≤B):xd W B' v L h:=by
 obtain⟨vs,h1,h2⟩:=k;exact⟨vs,⟨h1.1,h1.2.imp id fun⟨g,cap,cur,a,b,c⟩=>⟨g,cap,cur,a,Ws hB b,c⟩⟩,h2⟩
theorem xd.more{W W':V8}{B:Nat}{v v' us ug:R2}{L:List Nat}{h:Hl}{N:Nat}{vs:List R2}(ho:W.ownsRow B 46 2 v L.length vs)(hv:∀(k N:Nat),L[k]?=some N→∃us ug,vs[2*k]?=some us∧vs[2*k+1]?=some ug∧kE W us ug h N)(hu:kE W us ug h N)(ho':W'.ownsRow B 46 2 v' (L.length+1) (vs++[us,ug]))(hg:W.grownBy W' v.ownBlock):xd W' B v' (L++[N]) h:=by
 refine⟨vs++[us,ug],by rw[WM];exact ho',fun kk N' h2=>?_⟩;have hvl:vs.length=L.length*2:=ho.1;by_cases hkk:kk<L.length
 ·rw[WS hkk]at h2
  obtain⟨a,b,h3,h4,h5⟩:=hv kk N' h2;exact⟨a,b,by rw[WS vom];exact h3,by rw[WS vom];exact h4,h5.grown ho hg⟩
 ·rw[WQ vom]at h2
  cases hz:kk-L.length with
  |zero=>
   rw[hz]at h2;simp at h2;subst h2;refine⟨us,ug,?_,?_,hu.grown ho hg⟩
   ·rw[WQ vom,show 2*kk-vs.length=0 by omega];rfl
   ·rw[WQ vom,show 2*kk+1-vs.length=1 by omega];rfl
  |succ z=>rw[hz]at h2;simp at h2
def rB(W:V8)(us ug:R2)(h:Hl)(N:Nat):Prop:=(aq W us h.n fun i=>((dx h.n N i:Nat):Int))∧Dg W ug (h.gs N) (h.lg N)
theorem rB.below{W W':V8}{us ug:R2}{h:Hl}{N:Nat}(k:rB W us ug h N)(hb:Below W.heap.size W W'):rB W' us ug h N:=⟨k.1.below hb,k.2.below hb⟩
def UD(W:V8)(v:R2)(L:List Nat)(h:Hl):Prop:=∃(a:Option Addr) (c:Nat),v=.slice a L.length c∧∀(k N:Nat),L[k]?=some N→∃b o us ug,a=some ⟨b,o,none⟩∧W.cell? ⟨b,o+2*k,none⟩=some us∧W.cell? ⟨b,o+2*k+1,none⟩=some ug∧rB W us ug h N
def M1(W:V8)(v:R2)(L:List Nat)(h:Hl):Prop:=(v=.slice none 0 0∧L=[])∨∃(b o c:Nat) (vs:List R2),v=.slice (some ⟨b,o,none⟩) L.length c∧vs.length=L.length*2∧(∀(j:Nat) u,vs[j]?=some u→W.cell? ⟨b,o+j,none⟩=some u)∧(∀u∈vs,u.oneCell'=true)∧∀(k N:Nat),L[k]?=some N→∃us ug,vs[2*k]?=some us∧vs[2*k+1]?=some ug∧rB W us ug h N
theorem M1.r{W:V8}{v:R2}{L:List Nat}{h:Hl}(k:M1 W v L h):UD W v L h:=by
 rcases k with⟨rfl,rfl⟩|⟨b,o,c,vs,h1,h2,h3,h4,h5⟩
 ·exact⟨none,0,rfl,fun k N e=>by simp at e⟩
 ·refine⟨_,c,h1,fun k N e=>?_⟩
  obtain⟨us,ug,e1,e2,e3⟩:=h5 k N e;exact⟨b,o,us,ug,rfl,h3 _ _ e1,by rw[XS];exact h3 _ _ e2,e3⟩
def Um(W:V8)(B:Nat)(v:R2)(L:List Nat)(h:Hl):Prop:=∃vs:List R2,W.ownsRow B 46 2 v L.length vs∧∀(k N:Nat),L[k]?=some N→∃us ug,vs[2*k]?=some us∧vs[2*k+1]?=some ug∧rB W us ug h N
def Hl.cZ(h:Hl)(L:Nat→List Nat):Nat→List Nat
 |0=>[]
 |k+1=>h.cZ L k++L k
theorem Hl.qQ(h:Hl)(k:Nat):h.cZ (fun k=>h.fY k (26 ^ (h.n-1))) k=h.bU (k*26 ^ (h.n-1)):=by
 induction k with
 |zero=>simp[Hl.cZ,Hl.bU]
 |succ k ih=>rw[Hl.cZ,ih,Y5,Hl.y5]
theorem Hl.tT(h:Hl)(hn:1≤h.n):h.cZ (fun k=>h.fY k (26 ^ (h.n-1))) 26=h.bU (26 ^ h.n):=by
 rw[Hl.qQ,Nat.mul_comm,←Nat.pow_succ,Nat.succ_eq_add_one,show h.n-1+1=h.n by omega]
theorem Hl.vv(h:Hl){L:Nat→List Nat}{M:Nat}(hL:∀k,(L k).length≤M)(k:Nat):(h.cZ L k).length≤k*M:=by
 induction k with
 |zero=>simp[Hl.cZ]
 |succ k ih=>
  have:=hL k;rw[Hl.cZ,WM,Y5];omega
def mt(t c:List UInt8)(at':Nat):Bool:=(WO c.length).any fun i=>t.getD (at'+i) 0==c.getD i 0
theorem Cj{t c:List UInt8}{a:Nat}(h:∀i,i<c.length→t.getD (a+i) 0≠c.getD i 0):mt t c a=false:=by
 unfold mt;rw[List.any_eq_false];intro i hi;simpa using h i (by simpa using hi)
theorem NQ{t c:List UInt8}{a i:Nat}(hi:i<c.length)(h:t.getD (a+i) 0=c.getD i 0):mt t c a=true:=by
 unfold mt;rw[List.any_eq_true];exact⟨i,by simpa using hi,by simpa using h⟩
theorem Ox{x y:UInt8}(h:¬x=y):(((x.toNat:Nat):Int)==((y.toNat:Nat):Int))=false:=by
 simp;intro e;exact h (UInt8.toNat_inj.1 vom)
theorem La(t c:ByteArray)(hs:c.size≤t.size)(hc:c.size≤65536)(w:V8):Calls qf 52 #[.string t,.string c] w fun e w'=>e=.returned (.bool (mt t.data.toList c.data.toList 0))∧Below w.heap.size w w':=by
 have HL:Hid (c.size=c.data.toList.length):=Pl.aN c;go_enter Tryz.func52,Tryz.ntmps52
 go_wp2_with fail
 go_loopw [8] (fun i W=>∃k:Nat,k≤c.size∧i=.int .i64 (k:Nat)∧(∀j,j<k→t.data.toList.getD j 0≠c.data.toList.getD j 0)∧Below w.heap.size w W) (fun i _=>((c.size:Int)-intOf i).toNat)
 case atStart=>exact⟨0,vom,rfl,fun j hj=>by omega,Below.refl _ _⟩
 case round=>
  obtain⟨k,hk,rfl,hn,g⟩:=hrel;have HN:Hid _:=hn;have d:Hid _:=g;clear hn g;by_cases hlt:k<c.size
  ·have f:Hid (k<c.size):=hlt
   have n:(k:Int)<(c.size:Int):=vom;have q:(k:Int)<(t.size:Int):=vom;have l:k<t.size:=vom;have hx:=(fI t k l).symm;have hy:=(fI c k hlt).symm
   have b:Hid (t.data.toList.getD k 0≠c.data.toList.getD k 0→∀j,j<k+1→t.data.toList.getD j 0≠c.data.toList.getD j 0):=fun h j hj=>by
    by_cases e:j=k
    ·rw[e];exact h
    ·exact HN.out j vom
   have a:Hid (t.data.toList.getD k 0=c.data.toList.getD k 0→mt t.data.toList c.data.toList 0=true):=fun h=>NQ (i:=k) (by rw[←HL.out];exact f.out) (by rw[WN];exact h);generalize t.data.toList.getD k 0=x at *;generalize c.data.toList.getD k 0=y at *;by_cases hxy:x=y
   ·subst hxy
    have HT:Hid _:=a.out rfl;have hb:(((x.toNat:Nat):Int)==((x.toNat:Nat):Int))=true:=vsi;clear a b
    go_upto_region 4 with fail
    go_quiet (fail)
    go_wp2;go_ret;exact⟨by rw[HT.out];rfl,d.out.trans ⟨rfl,rfl,rfl,R3 _,fun _ _=>rfl⟩⟩
   ·have m:Hid _:=b.out hxy
    have hb:=Ox hxy;clear a b hxy
    go_upto_region 4 with fail
    go_quiet (fail)
    go_wp2;go_roundw
    case rel=>exact⟨k+1,f.out,by go_num,m.out,d.out.trans ⟨rfl,rfl,rfl,R3 _,fun _ _=>rfl⟩⟩
    case measure=>have:=f.out;simp[intOf];omega
  ·obtain rfl:k=c.size:=vom
   have o:¬((c.size:Nat):Int)<((c.size:Nat):Int):=vom;have HF:Hid (mt t.data.toList c.data.toList 0=false):=Cj fun i hi=>by rw[WN];exact HN.out i (by rw[HL.out];exact hi)
   clear hlt;go_wp2;go_ret;exact⟨by rw[HF.out];rfl,d.out⟩
def jv(p:Nat→Int)(s:Nat→Nat)(n:Nat):Nat→Int:=fun i=>if i<26 then p i else if i<52 then(s (i-26):Nat)else(n:Nat)
theorem F1(p:Nat→Int)(s:Nat→Nat)(n:Nat){x:Nat}(hx:x<26)(v:Int):upd (jv p s n) x v=jv (upd p x v) s n:=YP fun i=>by
 unfold upd jv;by_cases e:i=x
 ·rw[Wc e,Wc vom];exact(Wc e).symm
 ·rw[V9 e]
  by_cases h:i<26
  ·rw[Wc h,Wc h];exact(V9 e).symm
  ·rw[V9 h,V9 h]
theorem NA(p:Nat→Int)(s:Nat→Nat)(n:Nat){k:Nat}(hk:k<26)(x:Nat):upd (jv p s n) (26+k) (x:Nat)=jv p (fun j=>if j=k then x else s j) n:=YP fun i=>by
 unfold upd jv;by_cases e:i=26+k
 ·rw[Wc e,V9 vom,Wc vom]
  show((x:Nat):Int)=((if i-26=k then x else s (i-26):Nat):Int);rw[Wc vom]
 ·rw[V9 e]
  by_cases h:i<26
  ·rw[Wc h,Wc h]
  ·rw[V9 h,V9 h]
   by_cases h2:i<52
   ·rw[Wc h2,Wc h2]
    show((s (i-26):Nat):Int)=((if i-26=k then x else s (i-26):Nat):Int);rw[V9 vom]
   ·rw[V9 h2,V9 h2]
theorem O5(p:Nat→Int)(s:Nat→Nat)(n m:Nat):ints 53 (upd (jv p s n) 52 (m:Nat))=ints 53 (jv p s m):=b8 fun i hi=>by
 unfold upd jv;by_cases e:i=52
 ·rw[Wc e,V9 vom,V9 vom]
 ·rw[V9 e]
  by_cases h:i<26
  ·rw[Wc h,Wc h]
  ·rw[V9 h,V9 h,Wc vom,Wc vom]
theorem Pk(p:Nat→Int)(s:Nat→Nat)(n:Nat){x:Nat}(hx:x<26):jv p s n x=p x:=Wc hx
theorem Vn(p:Nat→Int)(s:Nat→Nat)(n:Nat){k:Nat}(hk:k<26):jv p s n (26+k)=(s k:Nat):=by
 unfold jv;rw[V9 vom,Wc vom,show 26+k-26=k by omega]
theorem QE(p:Nat→Int)(s:Nat→Nat)(n:Nat):jv p s n 52=(n:Nat):=by
 unfold jv;rw[V9 vom,V9 vom]
theorem Af:qf.built 166 []=some (ints 53 fun _=>0):=vkr
def rG(W:V8)(q:Nat)(p:Nat→Int)(s:Nat→Nat)(n:Nat):Prop:=af W q 166 (ints 53 (jv p s n))
theorem Ir(w:V8):Calls qf 102 #[] w fun e w'=>∃q,e=.returned (.pointer (some ⟨q,0,none⟩))∧w.heap.size≤q∧rG w' q (fun _=>-1) (fun _=>0) 0∧Below w.heap.size w w':=by
 have b:af (w.alloc (.cells (ints 53 fun _=>0) 166)) w.heap.size 166 (ints 53 (jv (fun c=>if c<0 then -1 else 0) (fun _=>0) 0)):=by
  have e:ints 53 (jv (fun c=>if c<0 then -1 else 0) (fun _=>0) 0)=ints 53 fun _=>0:=b8 fun i _=>by
   unfold jv;by_cases h1:i<26
   ·rw[Wc h1];exact V9 vom
   ·rw[V9 h1]
    by_cases h2:i<52
    ·rw[Wc h2];rfl
    ·rw[V9 h2];rfl
  rw[e];exact af.new w _ _
 have d:=(Below.refl w.heap.size w).alloc (R3 _) (.cells (ints 53 fun _=>0) 166);go_enter Tryz.func102,Tryz.ntmps102
 go_upto_region 2 with(first|refine cS rfl 166 rfl (ints 53 fun _=>0) Af ?_)
 generalize w.alloc (.cells (ints 53 fun _=>0) 166)=W0 at *
 go_wp2_with fail
 go_loopw [5] (fun i W=>∃k:Nat,k≤26∧i=.int .i64 (k:Nat)∧af W w.heap.size 166 (ints 53 (jv (fun c=>if c<k then -1 else 0) (fun _=>0) 0))∧Below w.heap.size w W) (fun i _=>((26:Int)-intOf i).toNat)
 case atStart=>exact⟨0,vom,rfl,b,d⟩
 case round=>
  clear b d;obtain⟨k,hk,rfl,hr,a⟩:=hrel;by_cases hlt:k<26
  ·have f:Hid (k<26):=hlt
   have h:(k:Int)<26:=vom;have hc:=hr.cell (aB (jv (fun c=>if c<k then -1 else 0) (fun _=>0) 0) (i:=k) vom);have hf:=hr.frozen k
   have HN:Hid (af (wr.setCell ⟨w.heap.size,k,none⟩ (.int .i64 (-1))) w.heap.size 166 (ints 53 (jv (fun c=>if c<k+1 then -1 else 0) (fun _=>0) 0))∧Below w.heap.size w (wr.setCell ⟨w.heap.size,k,none⟩ (.int .i64 (-1)))):=by
    refine⟨?_,a.setCell (p:=⟨w.heap.size,k,none⟩) (R3 _) _⟩;have h1:=hr.set k (.int .i64 (-1));rw[ints_set,F1 _ _ _ hlt]at h1
    have e:upd (fun c=>if c<k then(-1:Int)else 0) k (-1)=fun c=>if c<k+1 then -1 else 0:=YP fun c=>by
     unfold upd;by_cases e1:c=k
     ·rw[Wc e1,Wc vom]
     ·rw[V9 e1]
      show(if c<k then(-1:Int)else 0)=if c<k+1 then -1 else 0
      by_cases e2:c<k
      ·rw[Wc e2,Wc vom]
      ·rw[V9 e2,V9 vom]
    rw[e]at h1;exact h1
   generalize jv (fun c=>if c<k then -1 else 0) (fun _=>0) 0=F at *;clear hlt hr a;go_wp2;go_roundw
   case rel=>exact⟨k+1,f.out,by go_num,HN.out.1,HN.out.2⟩
   case measure=>have:=f.out;simp[intOf];omega
  ·obtain rfl:k=26:=vom
   have HR:Hid (rG wr w.heap.size (fun _=>-1) (fun _=>0) 0):=by
    have e:ints 53 (jv (fun _=>-1) (fun _=>0) 0)=ints 53 (jv (fun c=>if c<26 then -1 else 0) (fun _=>0) 0):=b8 fun i _=>by
     unfold jv;by_cases h1:i<26
     ·rw[Wc h1,Wc h1];exact(Wc h1).symm
     ·rw[V9 h1,V9 h1]
    rw[Hid,rG,e];exact hr
   have g:Hid _:=a;clear hr a hlt;go_wp2;go_ret;exact⟨_,rfl,R3 _,HR.out,g.out⟩
theorem yM(q:Nat)(p:Nat→Int)(s:Nat→Nat)(n x y:Nat)(hx:x<26)(hn:p x=-1→n<26)(w:V8)(hb:rG w q p s n):Calls qf 103 #[.pointer (some ⟨q,0,none⟩),.int .i64 (x:Nat),.int .i64 (y:Nat)] w fun e w'=>w.grownBy w' (some q)∧((p x=-1∧e=.returned (.bool true)∧rG w' q (upd p x (y:Nat)) (fun j=>if j=n then x else s j) (n+1))∨(p x≠-1∧e=.returned (.bool (p x==((y:Nat):Int)))∧rG w' q p s n)):=by
 have E:(x:Int)<26:=vom;have hr:af w q 166 (ints 53 (jv p s n)):=hb;have hc:=hr.cell (aB (jv p s n) (i:=x) vom);rw[Pk p s n hx]at hc;by_cases hp:p x=-1
 ·have h:Hid _:=hp
  have m:=hn hp;have C:(n:Int)<26:=vom;rw[hp]at hc;have hf:=hr.frozen x
  have g:af (w.setCell ⟨q,x,none⟩ (.int .i64 (y:Nat))) q 166 (ints 53 (jv (upd p x (y:Nat)) s n)):=by
   have h1:=hr.set x (.int .i64 (y:Nat));rw[ints_set,F1 _ _ _ hx]at h1;exact h1
  have b:=jD w q x (.int .i64 (y:Nat));clear hr hb hp hn;go_enter Tryz.func103,Tryz.ntmps103
  go_upto_region 3 with fail
  generalize w.setCell ⟨q,x,none⟩ (.int .i64 (y:Nat))=W1 at *;clear hc hf;have k:∃s',(s'=s∨s'=fun j=>if j=n then x else s j)∧af W1.drew q 166 (ints 53 (jv (upd p x (y:Nat)) s' n)):=⟨s,.inl rfl,g⟩
  have a:af W1.drew q 166 (ints 53 (jv (upd p x (y:Nat)) s n)):=g;have d:w.grownBy W1.drew (some q):=⟨b.os,b.tape,b.output,b.size,b.block⟩
  clear g b;refine Xb ?_;refine Wz (S:=fun W=>∃s',(s'=s∨s'=fun j=>if j=n then x else s j)∧af W q 166 (ints 53 (jv (upd p x (y:Nat)) s' n))) vkr k (fun hS=>?_);clear k;obtain⟨U,hU⟩:∃x,x=W1.drew:=⟨_,rfl⟩
  rw[←hU]at hS a d⊢;clear hU;refine vuq 0 20 (.pointer (some ⟨q,0,none⟩)) ?_;refine vuq 1 21 (.pointer (some ⟨q,0,none⟩)) ?_;refine vuq 2 22 (.pointer (some ⟨q,0,none⟩)) ?_;refine vuq 3 23 (.pointer (some ⟨q,52,none⟩)) ?_;refine vuk 4 24 (.int .i64 (n:Nat)) rfl (fun W hW=>by obtain⟨s',_,hW⟩:=hW;have u:=hW.cell (aB (jv (upd p x (y:Nat)) s' n) (i:=52) vom);rw[QE]at u;clear hS hW;go_simp) hS ?_;refine vuq 5 25 (.int .i64 (x:Nat)) ?_;refine vuq 6 26 (.pointer (some ⟨q,0,none⟩)) ?_;refine vuq 7 27 (.pointer (some ⟨q,26,none⟩)) ?_;refine vuq 8 28 (.pointer (some ⟨q,26+n,none⟩)) ?_;refine rd1 9 rfl (fun K hK=>?_);have t:=a.cell (aB (jv (upd p x (y:Nat)) s n) (i:=26+n) vom);have B:=a.frozen (26+n)
  have c:af (U.setCell ⟨q,26+n,none⟩ (.int .i64 (x:Nat))) q 166 (ints 53 (jv (upd p x (y:Nat)) (fun j=>if j=n then x else s j) n)):=by
   have h1:=a.set (26+n) (.int .i64 (x:Nat));rw[ints_set,NA _ _ _ m]at h1;exact h1
  have o:=sx d (jD U q (26+n) (.int .i64 (x:Nat)));generalize jv (upd p x (y:Nat)) s n=F0 at *;go_simp;refine hK.out _ _ ⟨_,.inr rfl,c⟩ (fun _=>?_);clear hK K hS a t B d;refine Xq vkr ?_ _;refine WU ?_;generalize U.setCell ⟨q,26+n,none⟩ (.int .i64 (x:Nat))=U2 at *;have c2:=c.cell (aB (jv (upd p x (y:Nat)) (fun j=>if j=n then x else s j) n) (i:=52) vom);rw[QE]at c2;have f2:=c.frozen 52
  have f:af (U2.setCell ⟨q,52,none⟩ (.int .i64 ((n:Int)+1))) q 166 (ints 53 (jv (upd p x (y:Nat)) (fun j=>if j=n then x else s j) (n+1))):=by
   have h1:=c.set 52 (.int .i64 ((n:Int)+1));have e:((n:Int)+1)=((n+1:Nat):Int):=vom;rw[ints_set,e,O5]at h1;rw[e];exact h1
  have l:=sx o (jD U2 q 52 (.int .i64 ((n:Int)+1)));have c3:=f.cell (aB (jv (upd p x (y:Nat)) (fun j=>if j=n then x else s j) (n+1)) (i:=x) vom);rw[Pk _ _ _ hx,upd_same]at c3;have A:Hid _:=f;have z:Hid _:=l;have D:(((y:Nat):Int)==((y:Nat):Int))=true:=vsi;clear c o f l;go_wp2;go_ret;exact⟨z.out,.inl ⟨h.out,rfl,A.out⟩⟩
 ·have h:Hid _:=hp
  have HR:Hid _:=hr;have F:(p x==-1)=false:=by simpa using hp
  clear hb hn hr hp;generalize p x=v at *;go_enter Tryz.func103,Tryz.ntmps103;go_wp2;go_ret;exact⟨World.grownBy.refl _ _,.inr ⟨h.out,rfl,HR.out⟩⟩
end
end Go.Proofs.YtpcnpkhgjanamaaGreatDoor
