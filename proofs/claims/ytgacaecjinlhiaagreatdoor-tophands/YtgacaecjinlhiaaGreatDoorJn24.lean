import Derived.Test.YtgacaecjinlhiaaGreatDoorFgP
namespace Go.Proofs.YtgacaecjinlhiaaGreatDoor
namespace Hb
open Go.RowKit PK Vg Go.Conc Cs
theorem IC:eR7=.region 7 eO7 true:=by kernel_rfl
theorem JR (Fd:Nat):Terms AtRel (DN Fd):=⟨atRel_trans,ij⟩
theorem Le (Fd:Nat):LetsDraw (DN Fd):=fun w=>⟨Nat.le_refl _,fun e he=>by simp at he⟩
set_option maxRecDepth 100000 in
theorem GM {H:Array Obj} {o:Os} {out:Array (Nat × ByteArray)} {n bM bL Fd:Nat} {p q r s v0 v2 v4 v6 v7 v8 v12 v13 v14 v15 v16 v17 v18 v19 v20 v21 v22 v23 v26 v27 v28 v29 v30 v31 v32 v33 v34 v35 v36 v37 v38 v39 v40 v41 v42 v43 v44 v45 v46 v47 v48 v49 v50 v51 v52:Value} {w:World} (hF:Fd<H.size) (hz:Z7 H o out w) (cs:List Frame):∃mu,Goes Tryz.prog true AtRel (DN Fd) (fun g w'=>∃(C1 C2 bF bD:Nat) (v0 v2 v4 v6 v7 v8 v12 v13 v14 v15 v16 v17 v18 v19 v20 v21 v22 v23 v26 v27 v28 v29 v30 v31 v32 v33 v34 v35 v36 v37 v38 v39 v40 v41 v42 v43 v44 v45 v46 v47 v48 v49 v50 v51 v52:Value),g=G (eB.at ⟨#[v0,.int .i64 (n:Nat),v2,.pointer (some ⟨bM,0,none⟩),v4,.pointer (some ⟨bL,0,none⟩),v6,v7,v8,.pointer (some ⟨Fd,0,none⟩),.pointer (some ⟨bF,0,none⟩),.pointer (some ⟨bD,0,none⟩),v12,v13,v14,v15,v16,v17,v18,v19,v20,v21,v22,v23,.chan (some C1),.chan (some C2),v26,v27,v28,v29,v30,v31,v32,v33,v34,v35,v36,v37,v38,v39,v40,v41,v42,v43,v44,v45,v46,v47,v48,v49,v50,v51,v52],[]⟩ [.code eT1]) cs∧Z7 H o out w'∧ZC H w' C1∧ZC H w' C2∧C1≠C2∧ZB H w' bF 78 (.chan (some C1))∧ZB H w' bD 79 (.chan (some C2))) mu (G (eB.at ⟨#[v0,.int .i64 (n:Nat),v2,.pointer (some ⟨bM,0,none⟩),v4,.pointer (some ⟨bL,0,none⟩),v6,v7,v8,.pointer (some ⟨Fd,0,none⟩),r,s,v12,v13,v14,v15,v16,v17,v18,v19,v20,v21,v22,v23,p,q,v26,v27,v28,v29,v30,v31,v32,v33,v34,v35,v36,v37,v38,v39,v40,v41,v42,v43,v44,v45,v46,v47,v48,v49,v50,v51,v52],[]⟩ [.code eR7,.code eT1]) cs) w:=by
 have h:=wpC_region_held (P:=Tryz.prog) (main:=true) (fn:=11) (ops:=eO7) (Q:=Q7 H o out n bM bL Fd) (S:=fun _=>True) (JR Fd) (Le Fd) (id:=7) (a:=⟨#[v0,.int .i64 (n:Nat),v2,.pointer (some ⟨bM,0,none⟩),v4,.pointer (some ⟨bL,0,none⟩),v6,v7,v8,.pointer (some ⟨Fd,0,none⟩),r,s,v12,v13,v14,v15,v16,v17,v18,v19,v20,v21,v22,v23,p,q,v26,v27,v28,v29,v30,v31,v32,v33,v34,v35,v36,v37,v38,v39,v40,v41,v42,v43,v44,v45,v46,v47,v48,v49,v50,v51,v52],[]⟩) (w:=w) (by kernel_rfl) (fun w₁ h₁=>by
  obtain ⟨d,rfl⟩:=h₁
  exact KB hF ⟨hz.old,hz.size,hz.os,hz.output⟩)
 rw[IC]
 refine ⟨0+_,wpC_goes h rfl (by decide) (fun e a' w' hQ=>?_)⟩
 obtain ⟨rfl,C1,C2,bF,bD,v0,v2,v4,v6,v7,v8,v12,v13,v14,v15,v16,v17,v18,v19,v20,v21,v22,v23,v26,v27,v28,v29,v30,v31,v32,v33,v34,v35,v36,v37,v38,v39,v40,v41,v42,v43,v44,v45,v46,v47,v48,v49,v50,v51,v52,rfl,z,k0,k1,kn,k2,k3⟩:=hQ
 exact Goes.stop fun w₂ h₂=>by
  obtain ⟨d,rfl⟩:=h₂
  exact ⟨C1,C2,bF,bD,_,_,_,_,_,_,_,_,_,_,_,_,_,_,_,_,_,_,_,_,_,_,_,_,_,_,_,_,_,_,_,_,_,_,_,_,_,_,_,_,_,_,_,_,_,rfl,z.at' d,k0,k1,kn,k2,k3⟩
set_option maxRecDepth 100000 in
set_option maxHeartbeats 4000000 in
theorem GK {H:Array Obj} {o:Os} {out:Array (Nat × ByteArray)} {n bM bL Fd C1 C2 bF bD:Nat} {v0 v2 v4 v6 v7 v8 v12 v13 v14 v15 v16 v17 v18 v19 v20 v21 v22 v23 v26 v27 v28 v29 v30 v31 v32 v33 v34 v35 v36 v37 v38 v39 v40 v41 v42 v43 v44 v45 v46 v47 v48 v49 v50 v51 v52:Value} {w:World} (hI:HI H o out w) (hn:1≤n) (cs:List Frame):∃mu,Goes Tryz.prog true AtRel (DN Fd) (fun g w'=>g.status=.running∧(∀c:Cst,c.Fd=Fd→xp c bF bM bL bD n cs 0 g)∧HI H o out w') mu (G (eB.at ⟨#[v0,.int .i64 (n:Nat),v2,.pointer (some ⟨bM,0,none⟩),v4,.pointer (some ⟨bL,0,none⟩),v6,v7,v8,.pointer (some ⟨Fd,0,none⟩),.pointer (some ⟨bF,0,none⟩),.pointer (some ⟨bD,0,none⟩),v12,v13,v14,v15,v16,v17,v18,v19,v20,v21,v22,v23,.chan (some C1),.chan (some C2),v26,v27,v28,v29,v30,v31,v32,v33,v34,v35,v36,v37,v38,v39,v40,v41,v42,v43,v44,v45,v46,v47,v48,v49,v50,v51,v52],[]⟩ [.code eT1]) cs) w:=by
 have hlt:decide (0<n)=true:=by simp;omega
 refine ⟨60,?_⟩
 simp only[eT1,dm,Tryz.f11,Option.getD_some]
 repeat (refine fU hI rfl (fun w₁ h₁=>?_);walk_rw;refine ⟨ij _,?_⟩;clear hI;have hI:=h₁;clear h₁)
 refine fU hI rfl (fun w₁ h₁=>?_)
 refine goes_oper_k rfl rfl (by decide) (fun K hK=>?_)
 go_simp
 refine hK _ _ ⟨⟨by simp,fun e he=>?_⟩,?_⟩
 ·have hm:=mem_listed he
  simp[go_sem] at hm
 clear hK K hI
 have hI:=h₁
 clear h₁
 refine fU hI rfl (fun w₁ h₁=>?_)
 refine goes_oper_k rfl rfl (by decide) (fun K hK=>?_)
 go_simp
 refine hK _ _ ⟨⟨by simp,fun e he=>?_⟩,?_⟩
 ·have hm:=mem_listed he
  simp[go_sem] at hm
 clear hK K hI
 have hI:=h₁
 clear h₁
 repeat (refine fU hI rfl (fun w₁ h₁=>?_);walk_rw;refine ⟨ij _,?_⟩;clear hI;have hI:=h₁;clear h₁)
 refine fU hI rfl (fun w₁ h₁=>?_)
 refine goes_oper_k rfl rfl (by decide) (fun K hK=>?_)
 go_simp
 refine hK _ _ ⟨⟨by simp,fun e he=>?_⟩,?_⟩
 ·have hm:=mem_listed he
  simp[go_sem] at hm
 clear hK K hI
 have hI:=h₁
 clear h₁
 repeat (refine fU hI rfl (fun w₁ h₁=>?_);walk_rw;refine ⟨ij _,?_⟩;clear hI;have hI:=h₁;clear h₁)
 refine fU hI rfl (fun w₁ h₁=>?_)
 rw[stepG_cond (t:=true) rfl]
 simp only[goes_go,↓reduceIte]
 refine ⟨ij _,?_⟩
 clear hI
 have hI:=h₁
 clear h₁
 repeat (refine fU hI rfl (fun w₁ h₁=>?_);walk_rw;refine ⟨ij _,?_⟩;clear hI;have hI:=h₁;clear h₁)
 refine fU hI rfl (fun w₁ h₁=>?_)
 refine goes_oper_k rfl rfl (by decide) (fun K hK=>?_)
 go_simp
 refine hK _ _ ⟨⟨by simp,fun e he=>?_⟩,?_⟩
 ·have hm:=mem_listed he
  simp[go_sem] at hm
 clear hK K hI
 have hI:=h₁
 clear h₁
 exact Goes.stop fun w₂ h₂=>by
  obtain ⟨d,rfl⟩:=h₂
  refine ⟨rfl,fun c hc=>?_,hI⟩
  subst hc
  exact ⟨_,_,_,_,_,_,_,_,_,_,_,_,_,_,_,_,_,_,_,_,_,_,_,_,_,_,_,_,_,_,_,_,_,_,_,_,_,_,_,_,_,_,_,_,rfl⟩
end Hb
namespace Bo
open Go.Proofs.YtgacaecjinlhiaaGreatDoor PK
structure Mn where
 k:Nat
 x:Nat→Nat
 y:Nat→Nat
 s:Nat→Nat→Nat
structure Mn.Ok (m:Mn):Prop where
 x:∀i,i<m.k→m.x i<26
 y:∀i,i<m.k→m.y i<26
 s:∀i,i<m.k→∀c,c<26→m.s i c<26
inductive Der (m:Mn) (a b:Nat):Nat→Nat→Prop
 | base:Der m a b a b
 | sym {x y:Nat}:Der m a b x y→Der m a b y x
 | fwd {i y:Nat}:i<m.k→Der m a b (m.x i) y→Der m a b (m.y i) (m.s i y)
 | bwd {i y:Nat}:i<m.k→Der m a b (m.y i) y→Der m a b (m.x i) (m.s i y)
theorem Der.lt {m:Mn} (h:m.Ok) {a b:Nat} (ha:a<26) (hb:b<26) {x y:Nat} (hd:Der m a b x y):x<26∧y<26:=by
 induction hd with
 | base=>exact ⟨ha,hb⟩
 | sym _ ih=>exact ⟨ih.2,ih.1⟩
 | fwd hi _ ih=>exact ⟨h.y _ hi,h.s _ hi _ ih.2⟩
 | bwd hi _ ih=>exact ⟨h.x _ hi,h.s _ hi _ ih.2⟩
def Sub (m:Mn) (a b:Nat) (p:Nat→Int):Prop:=∀x,x<26→p x=-1∨∃y:Nat,y<26∧p x=(y:Int)∧Der m a b x y
structure Closed (m:Mn) (a b:Nat) (p:Nat→Int):Prop where
 base:p a=(b:Nat)
 sym:∀x y:Nat,x<26→p x=(y:Int)→p y=(x:Nat)
 fwd:∀i y:Nat,i<m.k→p (m.x i)=(y:Int)→p (m.y i)=(m.s i y:Nat)
 bwd:∀i y:Nat,i<m.k→p (m.y i)=(y:Int)→p (m.x i)=(m.s i y:Nat)
theorem Closed.all {m:Mn} (h:m.Ok) {a b:Nat} (ha:a<26) (hb:b<26) {p:Nat→Int} (hc:Closed m a b p) {x y:Nat} (hd:Der m a b x y):p x=(y:Int):=by
 induction hd with
 | base=>exact hc.base
 | sym h1 ih=>exact hc.sym _ _ (h1.lt h ha hb).1 ih
 | fwd hi _ ih=>exact hc.fwd _ _ hi ih
 | bwd hi _ ih=>exact hc.bwd _ _ hi ih
def xx (m:Mn) (a b:Nat):Prop:=∃x y z:Nat,Der m a b x y∧Der m a b x z∧y≠z
def Res (m:Mn) (a b:Nat) (ok:Bool) (p:Nat→Int):Prop:=(ok=true∧Sub m a b p∧Closed m a b p)∨(ok=false∧xx m a b∧p=fun _=>0)
theorem Closed.o9 {m:Mn} (h:m.Ok) {a b:Nat} (ha:a<26) (hb:b<26) {p:Nat→Int} (hc:Closed m a b p):¬xx m a b:=by
 rintro ⟨x,y,z,h1,h2,h3⟩
 have e1:=hc.all h ha hb h1
 have e2:=hc.all h ha hb h2
 rw[e1] at e2
 exact h3 (by omega)
theorem Res.unique {m:Mn} (h:m.Ok) {a b:Nat} (ha:a<26) (hb:b<26) {o1 o2:Bool} {p1 p2:Nat→Int} (h1:Res m a b o1 p1) (h2:Res m a b o2 p2):o1=o2∧∀x,x<26→p1 x=p2 x:=by
 rcases h1 with ⟨e1,s1,c1⟩ | ⟨e1,f1,q1⟩ <;> rcases h2 with ⟨e2,s2,c2⟩ | ⟨e2,f2,q2⟩
 ·refine ⟨by rw[e1,e2],fun x hx=>?_⟩
  rcases s1 x hx with n1 | ⟨y,hy,ey,dy⟩
  ·rcases s2 x hx with n2 | ⟨z,hz,ez,dz⟩
   ·rw[n1,n2]
   ·have:=c1.all h ha hb dz
    rw[n1] at this
    omega
  ·rw[ey,c2.all h ha hb dy]
 ·exact absurd f2 (c1.o9 h ha hb)
 ·exact absurd f1 (c2.o9 h ha hb)
 ·exact ⟨by rw[e1,e2],fun x _=>by rw[q1,q2]⟩
theorem yq {m:Mn} (h:m.Ok) {a b:Nat} (ha:a<26) (hb:b<26):∃ok p,Res m a b ok p:=by
 by_cases hc:xx m a b
 ·exact ⟨false,fun _=>0,.inr ⟨rfl,hc,rfl⟩⟩
 ·have huniq:∀x y z:Nat,Der m a b x y→Der m a b x z→y=z:=fun x y z h1 h2=>by
   by_cases e:y=z
   ·exact e
   ·exact absurd ⟨x,y,z,h1,h2,e⟩ hc
  have hex:∀x:Nat,∃v:Int,(v=-1∧∀y,¬Der m a b x y)∨∃y:Nat,v=(y:Int)∧Der m a b x y:=fun x=>by
   by_cases e:∃y,Der m a b x y
   ·obtain ⟨y,hy⟩:=e
    exact ⟨(y:Int),.inr ⟨y,rfl,hy⟩⟩
   ·exact ⟨-1,.inl ⟨rfl,fun y hy=>e ⟨y,hy⟩⟩⟩
  obtain ⟨p,hp⟩:=Classical.skolem.1 hex
  have hs:∀x y:Nat,p x=(y:Int)→Der m a b x y:=fun x y e=>by
   rcases hp x with ⟨e1,_⟩ | ⟨z,e1,hz⟩
   ·rw[e] at e1;omega
   ·have:y=z:=by omega
    rw[this];exact hz
  have ht:∀x y:Nat,Der m a b x y→p x=(y:Int):=fun x y hd=>by
   rcases hp x with ⟨_,e1⟩ | ⟨z,e1,hz⟩
   ·exact absurd hd (e1 y)
   ·rw[e1,huniq x y z hd hz]
  refine ⟨true,p,.inl ⟨rfl,fun x _=>?_,ht _ _ .base,fun x y _ e=>ht _ _ (hs _ _ e).sym,fun i y hi e=>ht _ _ (Der.fwd hi (hs _ _ e)),fun i y hi e=>ht _ _ (Der.bwd hi (hs _ _ e))⟩⟩
  rcases hp x with ⟨e1,_⟩ | ⟨z,e1,hz⟩
  ·exact .inl e1
  ·exact .inr ⟨z,(hz.lt h ha hb).2,e1,hz⟩
def ml (m:Mn) (c:Nat):Nat→List (Nat × Nat)
 | 0=>[]
 | i+1=>(ml m c i++if m.x i=c then [(i,m.y i)] else [])++if m.y i=c then [(i,m.x i)] else []
theorem KU (m:Mn) {i:Nat}:∀n,i<n→(i,m.y i) ∈ ml m (m.x i) n
 | 0,h=>by omega
 | n+1,h=>by
  unfold ml
  by_cases e:i=n
  ·subst e
   simp
  ·exact List.mem_append.2 (.inl (List.mem_append.2 (.inl (KU m n (Nat.lt_of_le_of_ne (Nat.le_of_lt_succ h) e)))))
theorem K8 (m:Mn) {i:Nat}:∀n,i<n→(i,m.x i) ∈ ml m (m.y i) n
 | 0,h=>by omega
 | n+1,h=>by
  unfold ml
  by_cases e:i=n
  ·subst e
   simp
  ·exact List.mem_append.2 (.inl (List.mem_append.2 (.inl (K8 m n (Nat.lt_of_le_of_ne (Nat.le_of_lt_succ h) e)))))
theorem xe (m:Mn) (c:Nat) {q:Nat × Nat}:∀n,q ∈ ml m c n→q.1<n∧((m.x q.1=c∧q.2=m.y q.1)∨(m.y q.1=c∧q.2=m.x q.1))
 | 0,h=>by simp[ml] at h
 | n+1,h=>by
  unfold ml at h
  rcases List.mem_append.1 h with h | h
  ·rcases List.mem_append.1 h with h | h
   ·have:=xe m c n h
    exact ⟨by omega,this.2⟩
   ·by_cases e:m.x n=c
    ·rw[if_pos e] at h
     simp at h
     subst h
     exact ⟨by simp,.inl ⟨e,rfl⟩⟩
    ·rw[if_neg e] at h
     simp at h
  ·by_cases e:m.y n=c
   ·rw[if_pos e] at h
    simp at h
    subst h
    exact ⟨by simp,.inr ⟨e,rfl⟩⟩
   ·rw[if_neg e] at h
    simp at h
theorem xw (m:Mn) (c:Nat):∀n,(ml m c n).length≤2*n
 | 0=>by simp[ml]
 | n+1=>by
  have:=xw m c n
  unfold ml
  rw[List.length_append,List.length_append]
  by_cases e1:m.x n=c <;> by_cases e2:m.y n=c <;> simp[e1,e2] <;> omega
def most (f:Nat→Nat):Nat→Nat
 | 0=>0
 | k+1=>if f (most f k)<f k then k else most f k
theorem uA (f:Nat→Nat):∀k,most f k<k∨most f k=0
 | 0=>.inr rfl
 | k+1=>by
  unfold most
  rcases uA f k with h | h <;> by_cases e:f (most f k)<f k
  ·rw[if_pos e];exact .inl (by omega)
  ·rw[if_neg e];exact .inl (by omega)
  ·rw[if_pos e];exact .inl (by omega)
  ·rw[if_neg e];exact .inr h
theorem zY (f:Nat→Nat):most f 26<26:=by
 rcases uA f 26 with h | h
 ·exact h
 ·omega
structure mD (m:Mn) (a b:Nat) (p:Nat→Int) (s:Nat→Nat) (n:Nat):Prop where
 lt:∀j,j<n→s j<26
 inj:∀i j,i<n→j<n→s i=s j→i=j
 set:∀j,j<n→p (s j)≠-1
 all:∀x,x<26→p x≠-1→∃j,j<n∧s j=x
 sub:Sub m a b p
theorem mD.le {m:Mn} {a b:Nat} {p:Nat→Int} {s:Nat→Nat} {n:Nat} (h:mD m a b p s n):n≤26:=by
 have hn:((List.range n).map s).Nodup:=by
  rw[List.nodup_iff_pairwise_ne,List.pairwise_map]
  refine List.Pairwise.imp_of_mem ?_ (List.nodup_iff_pairwise_ne.1 (List.nodup_range (n:=n)))
  intro i j hi hj hne e
  exact hne (h.inj i j (by simpa using hi) (by simpa using hj) e)
 have:=Pm.lP ((List.range n).map s) (List.range 26) hn (fun x hx=>by
  obtain ⟨j,hj,rfl⟩:=List.mem_map.1 hx
  simpa using h.lt j (by simpa using hj))
 simpa using this
theorem mD.Ia {m:Mn} {a b:Nat} {p:Nat→Int} {s:Nat→Nat} {n:Nat} (h:mD m a b p s n) {x:Nat} (hx:x<26) (hp:p x=-1):n<26:=by
 have h1:=h.le
 by_cases e:n=26
 ·exfalso
  have hn:((List.range n).map s++[x]).Nodup:=by
   rw[List.nodup_append]
   refine ⟨?_,by simp,?_⟩
   ·rw[List.nodup_iff_pairwise_ne,List.pairwise_map]
    refine List.Pairwise.imp_of_mem ?_ (List.nodup_iff_pairwise_ne.1 (List.nodup_range (n:=n)))
    intro i j hi hj hne e
    exact hne (h.inj i j (by simpa using hi) (by simpa using hj) e)
   ·intro u hu v hv e2
    obtain ⟨j,hj,rfl⟩:=List.mem_map.1 hu
    have hv':v=x:=by simpa using hv
    subst hv'
    exact h.set j (by simpa using hj) (by rw[e2];exact hp)
  have:=Pm.lP _ (List.range 26) hn (fun u hu=>by
   rcases List.mem_append.1 hu with hu | hu
   ·obtain ⟨j,hj,rfl⟩:=List.mem_map.1 hu
    simpa using h.lt j (by simpa using hj)
   ·have:u=x:=by simpa using hu
    subst this
    simpa using hx)
  simp at this
  omega
 ·omega
theorem mD.put {m:Mn} {a b:Nat} {p:Nat→Int} {s:Nat→Nat} {n:Nat} (h:mD m a b p s n) {x y:Nat} (hx:x<26) (hy:y<26) (hp:p x=-1) (hd:Der m a b x y):mD m a b (upd p x (y:Int)) (fun j=>if j=n then x else s j) (n+1):=by
 refine ⟨fun j hj=>?_,fun i j hi hj=>?_,fun j hj=>?_,fun u hu hp2=>?_,fun u hu=>?_⟩
 ·show (if j=n then x else s j)<26
  by_cases e:j=n
  ·rw[if_pos e];exact hx
  ·rw[if_neg e];exact h.lt j (by omega)
 ·show (if i=n then x else s i)=(if j=n then x else s j)→i=j
  by_cases e1:i=n <;> by_cases e2:j=n
  ·intro _;omega
  ·rw[if_pos e1,if_neg e2]
   intro e
   exact absurd (by rw[←e];exact hp) (h.set j (by omega))
  ·rw[if_neg e1,if_pos e2]
   intro e
   exact absurd (by rw[e];exact hp) (h.set i (by omega))
  ·rw[if_neg e1,if_neg e2]
   exact h.inj i j (by omega) (by omega)
 ·show upd p x (y:Int) (if j=n then x else s j)≠-1
  unfold upd
  by_cases e:j=n
  ·rw[if_pos e,if_pos rfl];omega
  ·rw[if_neg e]
   by_cases e2:s j=x
   ·rw[if_pos e2];omega
   ·rw[if_neg e2];exact h.set j (by omega)
 ·unfold upd at hp2
  by_cases e:u=x
  ·exact ⟨n,by omega,by show (if n=n then x else s n)=u;rw[if_pos rfl,e]⟩
  ·rw[if_neg e] at hp2
   obtain ⟨j,hj,e2⟩:=h.all u hu hp2
   exact ⟨j,by omega,by show (if j=n then x else s j)=u;rw[if_neg (by omega),e2]⟩
 ·unfold upd
  by_cases e:u=x
  ·rw[if_pos e]
   exact .inr ⟨y,hy,rfl,by rw[e];exact hd⟩
  ·rw[if_neg e];exact h.sub u hu
def Done (m:Mn) (p:Nat→Int) (x:Nat):Prop:=∃y:Nat,p x=(y:Int)∧p y=(x:Nat)∧∀q,q ∈ ml m x m.k→p q.2=(m.s q.1 y:Nat)
def Ext (p q:Nat→Int):Prop:=∀x (y:Nat),p x=(y:Int)→q x=(y:Int)
theorem Ext.refl (p:Nat→Int):Ext p p:=fun _ _ h=>h
theorem Ext.trans {p q r:Nat→Int} (h:Ext p q) (h':Ext q r):Ext p r:=fun x y e=>h' x y (h x y e)
theorem Ext.put {p:Nat→Int} {x:Nat} (y:Int) (hp:p x=-1):Ext p (upd p x y):=fun u v e=>by
 unfold upd
 by_cases e2:u=x
 ·rw[e2,hp] at e;omega
 ·rw[if_neg e2];exact e
theorem Done.ext {m:Mn} {p q:Nat→Int} {x:Nat} (h:Done m p x) (he:Ext p q):Done m q x:=by
 obtain ⟨y,h1,h2,h3⟩:=h
 exact ⟨y,he _ _ h1,he _ _ h2,fun r hr=>he _ _ (h3 r hr)⟩
theorem Bl {m:Mn} (hm:m.Ok) {a b:Nat} {p:Nat→Int} {s:Nat→Nat} {n:Nat} (h:mD m a b p s n) (hb:p a=(b:Nat)) (hd:∀j,j<n→Done m p (s j)):Closed m a b p:=by
 have hall:∀x y:Nat,x<26→p x=(y:Int)→Done m p x:=fun x y hx e=>by
  obtain ⟨j,hj,e2⟩:=h.all x hx (by rw[e];omega)
  rw[←e2]
  exact hd j hj
 refine ⟨hb,fun x y hx e=>?_,fun i y hi e=>?_,fun i y hi e=>?_⟩
 ·obtain ⟨z,h1,h2,_⟩:=hall x y hx e
  have:y=z:=by rw[e] at h1;omega
  rw[this];exact h2
 ·obtain ⟨z,h1,_,h3⟩:=hall _ y (hm.x i hi) e
  have:y=z:=by rw[e] at h1;omega
  rw[this];exact h3 (i,m.y i) (KU m m.k hi)
 ·obtain ⟨z,h1,_,h3⟩:=hall _ y (hm.y i hi) e
  have:y=z:=by rw[e] at h1;omega
  rw[this];exact h3 (i,m.x i) (K8 m m.k hi)
theorem EZ {m:Mn} {a b x y:Nat} {q:Nat × Nat} (hq:q ∈ ml m x m.k) (hd:Der m a b x y):Der m a b q.2 (m.s q.1 y):=by
 obtain ⟨h1,⟨h2,h3⟩ | ⟨h2,h3⟩⟩:=xe m x m.k hq
 ·rw[h3];exact Der.fwd h1 (by rw[h2];exact hd)
 ·rw[h3];exact Der.bwd h1 (by rw[h2];exact hd)
def cs (p:Nat→Int):Nat:=((List.range 26).filter fun x=>decide (0≤p x)).length
end Bo
section
open Go.RowKit PK Vg
def gsF (a b:Nat) (p:Nat→Int):Nat→Int:=fun i=>if i=0 then (a:Nat) else if i=1 then (b:Nat) else p (i-2)
theorem we (a b:Nat) (p:Nat→Int):Tryz.prog.built 87 [(0,.int .i64 (a:Nat)),(1,.int .i64 (b:Nat)),(2,.agg (ints 26 p))]=some (ints 28 (gsF a b p)):=by kernel_rfl
theorem tM:(Tryz.prog.info? 87).map (fun i=>(i.zero,i.size,i.bytes))=some (some (.agg (ints 28 fun _=>0)),28,224):=by kernel_rfl
theorem tW:(Tryz.prog.info? 87).map (fun i=>(i.zero,i.size))=some (some (.agg (ints 28 fun _=>0)),28):=by kernel_rfl
theorem lJ:(Tryz.prog.info? 87).map (·.size)=some 28:=by kernel_rfl
def gl (g:Nat→Nat→Int) (L:List Nat):Nat→Int:=fun i=>g (L.getD (i / 28) 0) (i % 28)
theorem GN (g:Nat→Nat→Int) (L:List Nat) (b:Nat):(ints (L.length*28) (gl g L)).toList++(ints 28 (g b)).toList=(ints ((L++[b]).length*28) (gl g (L++[b]))).toList:=by
 rw[←Array.toList_append]
 refine congrArg Array.toList ?_
 have hlen:(L++[b]).length=L.length+1:=by simp
 rw[hlen]
 apply Array.ext_getElem?
 intro i
 by_cases h1:i<L.length*28
 ·rw[Array.getElem?_append_left (by rw[ag];exact h1),aB _ h1,aB _ (by omega)]
  unfold gl
  rw[List.getD_eq_getElem?_getD,List.getD_eq_getElem?_getD,List.getElem?_append_left (by omega)]
 ·rw[Array.getElem?_append_right (by rw[ag];omega),ag]
  by_cases h2:i<(L.length+1)*28
  ·rw[aB _ (by omega),aB _ h2]
   unfold gl
   rw[show i / 28=L.length by omega,show i % 28=i-L.length*28 by omega,List.getD_eq_getElem?_getD,List.getElem?_append_right (by omega)]
   simp
  ·rw[Array.getElem?_eq_none (by rw[ag];omega),Array.getElem?_eq_none (by rw[ag];omega)]
theorem Dq {n:Nat} {f:Nat→Int} {i:Nat} {v:Value} (h:(ints n f).toList[i]? = some v):i<n∧v=.int .i64 (f i):=by
 have h1:=(List.getElem?_eq_some_iff.1 h).1
 rw[Array.length_toList,ag] at h1
 rw[Array.getElem?_toList,aB _ h1] at h
 exact ⟨h1,by cases h;rfl⟩
def fS (W:World) (B:Nat) (v:Value) (g:Nat→Nat→Int) (L:List Nat):Prop:=W.ownsRow B 87 28 v L.length (ints (L.length*28) (gl g L)).toList
def kK (W:World) (v:Value) (g:Nat→Nat→Int) (L:List Nat):Prop:=∃(a:Option Addr) (cap:Nat),v=.slice a L.length cap∧∀j,j<L.length→∃b,a=some ⟨b,0,none⟩∧W.rangeAt b (j*28) (ints 28 (g (L.getD j 0))).toList
theorem kK.below {W W':World} {v:Value} {g:Nat→Nat→Int} {L:List Nat} (h:kK W v g L) (hb:Below W.heap.size W W'):kK W' v g L:=by
 obtain ⟨a,cap,e,h1⟩:=h
 refine ⟨a,cap,e,fun j hj=>?_⟩
 obtain ⟨b,eb,h2⟩:=h1 j hj
 refine ⟨b,eb,fun i v hv=>?_⟩
 exact (hb.cell (p:=⟨b,j*28+i,none⟩) (aA (h2 i v hv))).trans (h2 i v hv)
def eR (ok:Nat→Bool) (k:Nat):List Nat:=(List.range k).filter ok
theorem Jo {ok:Nat→Bool} {k:Nat} (h:ok k=true):eR ok (k+1)=eR ok k++[k]:=by
 unfold eR
 rw[List.range_succ,List.filter_append]
 simp[h]
theorem KV {ok:Nat→Bool} {k:Nat} (h:ok k=false):eR ok (k+1)=eR ok k:=by
 unfold eR
 rw[List.range_succ,List.filter_append]
 simp[h]
theorem yM (ok:Nat→Bool) (k:Nat):(eR ok k).length≤k:=by
 have:=List.length_filter_le ok (List.range k)
 unfold eR
 simpa using this
end
section
open Go.RowKit PK Vg
structure Hl where
 n:Nat
 gs:Nat→Nat→Nat→Int
 lg:Nat→List Nat
def Hl.p (h:Hl) (N:Nat):Bool:=decide (0<(h.lg N).length)
def Hl.fnd (h:Hl) (j:Nat):List Nat:=(List.range j).filter h.p
def Hl.eG (h:Hl) (k j:Nat):List Nat:=((List.range j).map fun i=>k*26 ^ (h.n-1)+i).filter h.p
theorem filter_one (p:Nat→Bool) (X:Nat):List.filter p [X]=if p X=true then [X] else []:=by
 cases h:p X <;> simp[List.filter,h]
theorem Hl.rX (h:Hl) (k j:Nat):h.eG k (j+1)=h.eG k j++if h.p (k*26 ^ (h.n-1)+j)=true then [k*26 ^ (h.n-1)+j] else []:=by
 unfold Hl.eG
 rw[List.range_succ,List.map_append,List.filter_append,List.map_cons,List.map_nil,filter_one]
theorem Hl.DC (h:Hl) (j:Nat):h.fnd (j+1)=h.fnd j++if h.p j=true then [j] else []:=by
 unfold Hl.fnd
 rw[List.range_succ,List.filter_append,filter_one]
theorem Hl.vQ (h:Hl) (k j:Nat):(h.eG k j).length≤j:=by
 unfold Hl.eG
 refine Nat.le_trans (List.length_filter_le _ _) ?_
 simp
theorem Hl.Fz (h:Hl) (j:Nat):(h.fnd j).length≤j:=by
 unfold Hl.fnd
 refine Nat.le_trans (List.length_filter_le _ _) ?_
 simp
theorem Hl.Gq (h:Hl) (k j:Nat):h.fnd (k*26 ^ (h.n-1)+j)=h.fnd (k*26 ^ (h.n-1))++h.eG k j:=by
 induction j with
 | zero=>simp[Hl.eG]
 | succ j ih=>rw[←Nat.add_assoc,Hl.DC,ih,Hl.rX,List.append_assoc]
theorem Hl.Dd (h:Hl) {j k N:Nat} (e:(h.fnd j)[k]? = some N):h.p N=true∧N<j:=by
 have hm:=List.mem_of_getElem? e
 unfold Hl.fnd at hm
 rw[List.mem_filter,List.mem_range] at hm
 exact ⟨hm.2,hm.1⟩
def iB (W:World) (us ug:Value) (h:Hl) (N:Nat):Prop:=(OwI W us h.n fun i=>((iD h.n N i:Nat):Int))∧∃B,fS W B ug (h.gs N) (h.lg N)
theorem fS.step {W W':World} {B:Nat} {v:Value} {g:Nat→Nat→Int} {L:List Nat} (h:fS W B v g L) (hb:Below W.heap.size W W'):fS W' B v g L:=kO h hb
theorem iB.below {W W':World} {us ug:Value} {h:Hl} {N:Nat} (k:iB W us ug h N) (hb:Below W.heap.size W W'):iB W' us ug h N:=⟨k.1.below hb,by
 obtain ⟨B,hB⟩:=k.2
 exact ⟨B,hB.step hb⟩⟩
theorem wQ {W W':World} {B n s g:Nat} {T TE:TypeId} {v:Value} {vs:List Value} {c:Array Value} (hT:T≠TE) (hr:af W g T c) (ho:W.ownsRow B TE s v n vs) (hg:W.grownBy W' v.ownBlock):af W' g T c:=by
 refine (hg.block g hr.lt fun e=>?_).trans hr
 rcases ho.2 with ⟨rfl,_⟩ | ⟨p,cap,cur,rfl,_,hp,_⟩
 ·cases e
 ·have e':some g=some p:=e
  cases e'
  have:some (Obj.cells c T (0,0))=some (Obj.cells cur TE (0,0)):=hr.symm.trans hp
  injection this with this
  injection this with _ this
  exact absurd this hT
theorem nW {W W':World} {B B' n n' s s':Nat} {T TE:TypeId} {u v:Value} {us vs:List Value} (hT:T≠TE) (hu:W.ownsRow B' T s' u n' us) (ho:W.ownsRow B TE s v n vs) (hg:W.grownBy W' v.ownBlock):W'.ownsRow B' T s' u n' us:=by
 obtain ⟨h1,h2⟩:=hu
 exact ⟨h1,h2.imp id fun ⟨g,cap,cur,e,hB,hc,h3⟩=>⟨g,cap,cur,e,hB,wQ hT hc ho hg,h3⟩⟩
theorem iB.grown {W W':World} {us ug v:Value} {h:Hl} {N B n:Nat} {vs:List Value} (k:iB W us ug h N) (ho:W.ownsRow B 48 2 v n vs) (hg:W.grownBy W' v.ownBlock):iB W' us ug h N:=by
 obtain ⟨⟨B1,k1⟩,B2,k2⟩:=k
 exact ⟨⟨B1,nW (by decide) k1 ho hg⟩,B2,nW (by decide) (show W.ownsRow _ 87 28 _ _ _ from k2) ho hg⟩
def HsO (W:World) (B:Nat) (v:Value) (L:List Nat) (h:Hl):Prop:=∃vs:List Value,W.ownsRow B 48 2 v L.length vs∧∀(k N:Nat),L[k]? = some N→∃us ug,vs[2*k]? = some us∧vs[2*k+1]? = some ug∧iB W us ug h N
theorem HsO.nil (W:World) (B:Nat) (h:Hl):HsO W B (.slice none 0 0) [] h:=⟨[],World.ownsRow_nil W B _ 2,fun k N e=>by simp at e⟩
theorem HsO.below {W W':World} {B:Nat} {v:Value} {L:List Nat} {h:Hl} (k:HsO W B v L h) (hb:Below W.heap.size W W'):HsO W' B v L h:=by
 obtain ⟨vs,h1,h2⟩:=k
 refine ⟨vs,kO h1 hb,fun k N e=>?_⟩
 obtain ⟨us,ug,a,b,c⟩:=h2 k N e
 exact ⟨us,ug,a,b,c.below hb⟩
theorem HsO.mono {W:World} {B B':Nat} {v:Value} {L:List Nat} {h:Hl} (k:HsO W B v L h) (hB:B'≤B):HsO W B' v L h:=by
 obtain ⟨vs,h1,h2⟩:=k
 exact ⟨vs,⟨h1.1,h1.2.imp id fun ⟨g,cap,cur,a,b,c⟩=>⟨g,cap,cur,a,Nat.le_trans hB b,c⟩⟩,h2⟩
theorem HsO.more {W W':World} {B:Nat} {v v' us ug:Value} {L:List Nat} {h:Hl} {N:Nat} {vs:List Value} (ho:W.ownsRow B 48 2 v L.length vs) (hv:∀(k N:Nat),L[k]? = some N→∃us ug,vs[2*k]? = some us∧vs[2*k+1]? = some ug∧iB W us ug h N) (hu:iB W us ug h N) (ho':W'.ownsRow B 48 2 v' (L.length+1) (vs++[us,ug])) (hg:W.grownBy W' v.ownBlock):HsO W' B v' (L++[N]) h:=by
 refine ⟨vs++[us,ug],by rw[List.length_append];exact ho',fun kk N' h2=>?_⟩
 have hvl:vs.length=L.length*2:=ho.1
 by_cases hkk:kk<L.length
 ·rw[List.getElem?_append_left hkk] at h2
  obtain ⟨a,b,h3,h4,h5⟩:=hv kk N' h2
  exact ⟨a,b,by rw[List.getElem?_append_left (by omega)];exact h3,by rw[List.getElem?_append_left (by omega)];exact h4,h5.grown ho hg⟩
 ·rw[List.getElem?_append_right (by omega)] at h2
  cases hz:kk-L.length with
  | zero =>
   rw[hz] at h2
   simp at h2
   subst h2
   refine ⟨us,ug,?_,?_,hu.grown ho hg⟩
   ·rw[List.getElem?_append_right (by omega),show 2*kk-vs.length=0 by omega];rfl
   ·rw[List.getElem?_append_right (by omega),show 2*kk+1-vs.length=1 by omega];rfl
  | succ z=>rw[hz] at h2;simp at h2
def oA (W:World) (us ug:Value) (h:Hl) (N:Nat):Prop:=(aq W us h.n fun i=>((iD h.n N i:Nat):Int))∧kK W ug (h.gs N) (h.lg N)
theorem oA.below {W W':World} {us ug:Value} {h:Hl} {N:Nat} (k:oA W us ug h N) (hb:Below W.heap.size W W'):oA W' us ug h N:=⟨k.1.below hb,k.2.below hb⟩
def HsR (W:World) (v:Value) (L:List Nat) (h:Hl):Prop:=∃(a:Option Addr) (c:Nat),v=.slice a L.length c∧∀(k N:Nat),L[k]? = some N→∃b o us ug,a=some ⟨b,o,none⟩∧W.cell? ⟨b,o+2*k,none⟩=some us∧W.cell? ⟨b,o+2*k+1,none⟩=some ug∧oA W us ug h N
def HsA (W:World) (v:Value) (L:List Nat) (h:Hl):Prop:=(v=.slice none 0 0∧L=[])∨∃(b o c:Nat) (vs:List Value),v=.slice (some ⟨b,o,none⟩) L.length c∧vs.length=L.length*2∧(∀(j:Nat) u,vs[j]? = some u→W.cell? ⟨b,o+j,none⟩=some u)∧(∀u ∈ vs,u.oneCell'=true)∧∀(k N:Nat),L[k]? = some N→∃us ug,vs[2*k]? = some us∧vs[2*k+1]? = some ug∧oA W us ug h N
theorem HsA.below {W W':World} {v:Value} {L:List Nat} {h:Hl} (k:HsA W v L h) (hb:Below W.heap.size W W'):HsA W' v L h:=by
 rcases k with k | ⟨b,o,c,vs,h1,h2,h3,h4,h5⟩
 ·exact .inl k
 ·refine .inr ⟨b,o,c,vs,h1,h2,fun j u e=>(hb.cell (aA (h3 j u e))).trans (h3 j u e),h4,fun k N e=>?_⟩
  obtain ⟨us,ug,e1,e2,e3⟩:=h5 k N e
  exact ⟨us,ug,e1,e2,e3.below hb⟩
theorem HsA.r {W:World} {v:Value} {L:List Nat} {h:Hl} (k:HsA W v L h):HsR W v L h:=by
 rcases k with ⟨rfl,rfl⟩ | ⟨b,o,c,vs,h1,h2,h3,h4,h5⟩
 ·exact ⟨none,0,rfl,fun k N e=>by simp at e⟩
 ·refine ⟨_,c,h1,fun k N e=>?_⟩
  obtain ⟨us,ug,e1,e2,e3⟩:=h5 k N e
  exact ⟨b,o,us,ug,rfl,h3 _ _ e1,by rw[Nat.add_assoc];exact h3 _ _ e2,e3⟩
def HsN (W:World) (B:Nat) (v:Value) (L:List Nat) (h:Hl):Prop:=∃vs:List Value,W.ownsRow B 48 2 v L.length vs∧∀(k N:Nat),L[k]? = some N→∃us ug,vs[2*k]? = some us∧vs[2*k+1]? = some ug∧oA W us ug h N
def Hl.eF (h:Hl) (L:Nat→List Nat):Nat→List Nat
 | 0=>[]
 | k+1=>h.eF L k++L k
theorem Hl.BI (h:Hl) (k:Nat):h.eF (fun k=>h.eG k (26 ^ (h.n-1))) k=h.fnd (k*26 ^ (h.n-1)):=by
 induction k with
 | zero=>simp[Hl.eF,Hl.fnd]
 | succ k ih=>rw[Hl.eF,ih,Nat.succ_mul,Hl.Gq]
theorem Hl.BU (h:Hl) (hn:1≤h.n):h.eF (fun k=>h.eG k (26 ^ (h.n-1))) 26=h.fnd (26 ^ h.n):=by
 rw[Hl.BI,Nat.mul_comm,←Nat.pow_succ,Nat.succ_eq_add_one,show h.n-1+1=h.n by omega]
theorem Hl.Cb (h:Hl) {L:Nat→List Nat} {M:Nat} (hL:∀k,(L k).length≤M) (k:Nat):(h.eF L k).length≤k*M:=by
 induction k with
 | zero=>simp[Hl.eF]
 | succ k ih =>
  have:=hL k
  rw[Hl.eF,List.length_append,Nat.succ_mul]
  omega
end
section
open Go.RowKit PK Vg
def mt (t c:List UInt8) (at':Nat):Bool:=(List.range c.length).any fun i=>t.getD (at'+i) 0==c.getD i 0
theorem EI {t c:List UInt8} {a:Nat} (h:∀i,i<c.length→t.getD (a+i) 0≠c.getD i 0):mt t c a=false:=by
 unfold mt
 rw[List.any_eq_false]
 intro i hi
 simpa using h i (by simpa using hi)
theorem Hj {t c:List UInt8} {a i:Nat} (hi:i<c.length) (h:t.getD (a+i) 0=c.getD i 0):mt t c a=true:=by
 unfold mt
 rw[List.any_eq_true]
 exact ⟨i,by simpa using hi,by simpa using h⟩
theorem Hh {x y:UInt8} (h:¬x=y):(((x.toNat:Nat):Int)==((y.toNat:Nat):Int))=false:=by
 simp
 intro e
 exact h (UInt8.toNat_inj.1 (by omega))
set_option maxRecDepth 100000 in
set_option maxHeartbeats 1000000 in
theorem Cj (t c:ByteArray) (hs:c.size≤t.size) (hc:c.size≤65536) (w:World):Calls Tryz.prog 29 #[.string t,.string c] w fun e w'=>e=.returned (.bool (mt t.data.toList c.data.toList 0))∧Below w.heap.size w w':=by
 have HL:Hid (c.size=c.data.toList.length):=Pl.aK c
 go_enter Tryz.func29,Tryz.ntmps29
 go_wp2_with fail
 go_loopw [8] (fun i W=>∃k:Nat,k≤c.size∧i=.int .i64 (k:Nat)∧(∀j,j<k→t.data.toList.getD j 0≠c.data.toList.getD j 0)∧Below w.heap.size w W) (fun i _=>((c.size:Int)-intOf i).toNat)
 case atStart=>exact ⟨0,by omega,rfl,fun j hj=>by omega,Below.refl _ _⟩
 case round =>
  obtain ⟨k,hk,rfl,hn,hbe⟩:=hrel
  have HN:=(show Hid _ from hn)
  have HBE:=(show Hid _ from hbe)
  clear hn hbe
  by_cases hlt:k<c.size
  ·have HLT:Hid (k<c.size):=hlt
   have hl1:(k:Int)<(c.size:Int):=by omega
   have hl2:(k:Int)<(t.size:Int):=by omega
   have hl3:k<t.size:=by omega
   have hx:=(ei t k hl3).symm
   have hy:=(ei c k hlt).symm
   have HNX:Hid (t.data.toList.getD k 0≠c.data.toList.getD k 0→∀j,j<k+1→t.data.toList.getD j 0≠c.data.toList.getD j 0):=fun h j hj=>by
    by_cases e:j=k
    ·rw[e];exact h
    ·exact HN.out j (by omega)
   have HYES:Hid (t.data.toList.getD k 0=c.data.toList.getD k 0→mt t.data.toList c.data.toList 0=true):=fun h=>Hj (i:=k) (by rw[←HL.out];exact HLT.out) (by rw[Nat.zero_add];exact h)
   generalize t.data.toList.getD k 0=x at *
   generalize c.data.toList.getD k 0=y at *
   by_cases hxy:x=y
   ·subst hxy
    have HT:=(show Hid _ from HYES.out rfl)
    have hb:(((x.toNat:Nat):Int)==((x.toNat:Nat):Int))=true:=by simp
    clear HYES HNX
    go_upto_region 4 with fail
    go_quiet (fail)
    go_wp2
    go_ret
    exact ⟨by rw[HT.out];rfl,HBE.out.trans ⟨rfl,rfl,rfl,Nat.le_refl _,fun _ _=>rfl⟩⟩
   ·have HNN:=(show Hid _ from HNX.out hxy)
    have hb:=Hh hxy
    clear HYES HNX hxy
    go_upto_region 4 with fail
    go_quiet (fail)
    go_wp2
    go_roundw
    case rel=>exact ⟨k+1,HLT.out,by go_num,HNN.out,HBE.out.trans ⟨rfl,rfl,rfl,Nat.le_refl _,fun _ _=>rfl⟩⟩
    case measure=>have:=HLT.out;simp[intOf];omega
  ·obtain rfl:k=c.size:=by omega
   have hnn:¬((c.size:Nat):Int)<((c.size:Nat):Int):=by omega
   have HF:Hid (mt t.data.toList c.data.toList 0=false):=EI fun i hi=>by rw[Nat.zero_add];exact HN.out i (by rw[HL.out];exact hi)
   clear hlt
   go_wp2
   go_ret
   exact ⟨by rw[HF.out];rfl,HBE.out⟩
end
section
open Go.RowKit PK Vg
def bdF (p:Nat→Int) (s:Nat→Nat) (n:Nat):Nat→Int:=fun i=>if i<26 then p i else if i<52 then (s (i-26):Nat) else (n:Nat)
theorem zF (p:Nat→Int) (s:Nat→Nat) (n:Nat) {x:Nat} (hx:x<26) (v:Int):upd (bdF p s n) x v=bdF (upd p x v) s n:=funext fun i=>by
 unfold upd bdF
 by_cases e:i=x
 ·rw[if_pos e,if_pos (by omega)];exact (if_pos e).symm
 ·rw[if_neg e]
  by_cases h:i<26
  ·rw[if_pos h,if_pos h];exact (if_neg e).symm
  ·rw[if_neg h,if_neg h]
theorem Fs (p:Nat→Int) (s:Nat→Nat) (n:Nat) {k:Nat} (hk:k<26) (x:Nat):upd (bdF p s n) (26+k) (x:Nat)=bdF p (fun j=>if j=k then x else s j) n:=funext fun i=>by
 unfold upd bdF
 by_cases e:i=26+k
 ·rw[if_pos e,if_neg (by omega),if_pos (by omega)]
  show ((x:Nat):Int)=((if i-26=k then x else s (i-26):Nat):Int)
  rw[if_pos (by omega)]
 ·rw[if_neg e]
  by_cases h:i<26
  ·rw[if_pos h,if_pos h]
  ·rw[if_neg h,if_neg h]
   by_cases h2:i<52
   ·rw[if_pos h2,if_pos h2]
    show ((s (i-26):Nat):Int)=((if i-26=k then x else s (i-26):Nat):Int)
    rw[if_neg (by omega)]
   ·rw[if_neg h2,if_neg h2]
theorem GL (p:Nat→Int) (s:Nat→Nat) (n m:Nat):ints 53 (upd (bdF p s n) 52 (m:Nat))=ints 53 (bdF p s m):=bO fun i hi=>by
 unfold upd bdF
 by_cases e:i=52
 ·rw[if_pos e,if_neg (by omega),if_neg (by omega)]
 ·rw[if_neg e]
  by_cases h:i<26
  ·rw[if_pos h,if_pos h]
  ·rw[if_neg h,if_neg h,if_pos (by omega),if_pos (by omega)]
theorem Gy (p:Nat→Int) (s:Nat→Nat) (n:Nat) {x:Nat} (hx:x<26):bdF p s n x=p x:=if_pos hx
theorem Lg (p:Nat→Int) (s:Nat→Nat) (n:Nat) {k:Nat} (hk:k<26):bdF p s n (26+k)=(s k:Nat):=by
 unfold bdF
 rw[if_neg (by omega),if_pos (by omega),show 26+k-26=k by omega]
theorem Kb (p:Nat→Int) (s:Nat→Nat) (n:Nat):bdF p s n 52=(n:Nat):=by
 unfold bdF
 rw[if_neg (by omega),if_neg (by omega)]
theorem vz:Tryz.prog.built 120 []=some (ints 53 fun _=>0):=by kernel_rfl
def mV (W:World) (q:Nat) (p:Nat→Int) (s:Nat→Nat) (n:Nat):Prop:=af W q 120 (ints 53 (bdF p s n))
set_option maxRecDepth 100000 in
set_option maxHeartbeats 2000000 in
theorem Av (w:World):Calls Tryz.prog 61 #[] w fun e w'=>∃q,e=.returned (.pointer (some ⟨q,0,none⟩))∧w.heap.size≤q∧mV w' q (fun _=>-1) (fun _=>0) 0∧Below w.heap.size w w':=by
 have hr0:af (w.alloc (.cells (ints 53 fun _=>0) 120)) w.heap.size 120 (ints 53 (bdF (fun c=>if c<0 then -1 else 0) (fun _=>0) 0)):=by
  have e:ints 53 (bdF (fun c=>if c<0 then -1 else 0) (fun _=>0) 0)=ints 53 fun _=>0:=bO fun i _=>by
   unfold bdF
   by_cases h1:i<26
   ·rw[if_pos h1];exact if_neg (by omega)
   ·rw[if_neg h1]
    by_cases h2:i<52
    ·rw[if_pos h2];rfl
    ·rw[if_neg h2];rfl
  rw[e]
  exact af.new w _ _
 have hb0:=(Below.refl w.heap.size w).alloc (Nat.le_refl _) (.cells (ints 53 fun _=>0) 120)
 go_enter Tryz.func61,Tryz.ntmps61
 go_upto_region 2 with (first | refine cP rfl 120 rfl (ints 53 fun _=>0) vz ?_)
 generalize w.alloc (.cells (ints 53 fun _=>0) 120)=W0 at *
 go_wp2_with fail
 go_loopw [5] (fun i W=>∃k:Nat,k≤26∧i=.int .i64 (k:Nat)∧af W w.heap.size 120 (ints 53 (bdF (fun c=>if c<k then -1 else 0) (fun _=>0) 0))∧Below w.heap.size w W) (fun i _=>((26:Int)-intOf i).toNat)
 case atStart=>exact ⟨0,by omega,rfl,hr0,hb0⟩
 case round =>
  clear hr0 hb0
  obtain ⟨k,hk,rfl,hr,hbe⟩:=hrel
  by_cases hlt:k<26
  ·have HLT:Hid (k<26):=hlt
   have hlt2:(k:Int)<26:=by omega
   have hc:=hr.cell (aB (bdF (fun c=>if c<k then -1 else 0) (fun _=>0) 0) (i:=k) (by omega))
   have hf:=hr.frozen k
   have HN:Hid (af (wr.setCell ⟨w.heap.size,k,none⟩ (.int .i64 (-1))) w.heap.size 120 (ints 53 (bdF (fun c=>if c<k+1 then -1 else 0) (fun _=>0) 0))∧Below w.heap.size w (wr.setCell ⟨w.heap.size,k,none⟩ (.int .i64 (-1)))):=by
    refine ⟨?_,hbe.setCell (p:=⟨w.heap.size,k,none⟩) (Nat.le_refl _) _⟩
    have h1:=hr.set k (.int .i64 (-1))
    rw[ints_set,zF _ _ _ hlt] at h1
    have e:upd (fun c=>if c<k then (-1:Int) else 0) k (-1)=fun c=>if c<k+1 then -1 else 0:=funext fun c=>by
     unfold upd
     by_cases e1:c=k
     ·rw[if_pos e1,if_pos (by omega)]
     ·rw[if_neg e1]
      show (if c<k then (-1:Int) else 0)=if c<k+1 then -1 else 0
      by_cases e2:c<k
      ·rw[if_pos e2,if_pos (by omega)]
      ·rw[if_neg e2,if_neg (by omega)]
    rw[e] at h1
    exact h1
   generalize bdF (fun c=>if c<k then -1 else 0) (fun _=>0) 0=F at *
   clear hlt hr hbe
   go_wp2
   go_roundw
   case rel=>exact ⟨k+1,HLT.out,by go_num,HN.out.1,HN.out.2⟩
   case measure=>have:=HLT.out;simp[intOf];omega
  ·obtain rfl:k=26:=by omega
   have HR:Hid (mV wr w.heap.size (fun _=>-1) (fun _=>0) 0):=by
    have e:ints 53 (bdF (fun _=>-1) (fun _=>0) 0)=ints 53 (bdF (fun c=>if c<26 then -1 else 0) (fun _=>0) 0):=bO fun i _=>by
     unfold bdF
     by_cases h1:i<26
     ·rw[if_pos h1,if_pos h1];exact (if_pos h1).symm
     ·rw[if_neg h1,if_neg h1]
    rw[Hid,mV,e]
    exact hr
   have HBE:=(show Hid _ from hbe)
   clear hr hbe hlt
   go_wp2
   go_ret
   exact ⟨_,rfl,Nat.le_refl _,HR.out,HBE.out⟩
set_option maxRecDepth 100000 in
set_option maxHeartbeats 4000000 in
theorem tv (q:Nat) (p:Nat→Int) (s:Nat→Nat) (n x y:Nat) (hx:x<26) (hn:p x=-1→n<26) (w:World) (hb:mV w q p s n):Calls Tryz.prog 62 #[.pointer (some ⟨q,0,none⟩),.int .i64 (x:Nat),.int .i64 (y:Nat)] w fun e w'=>w.grownBy w' (some q)∧((p x=-1∧e=.returned (.bool true)∧mV w' q (upd p x (y:Nat)) (fun j=>if j=n then x else s j) (n+1))∨(p x≠-1∧e=.returned (.bool (p x==((y:Nat):Int)))∧mV w' q p s n)):=by
 have hx2:(x:Int)<26:=by omega
 have hr:af w q 120 (ints 53 (bdF p s n)):=hb
 have hc:=hr.cell (aB (bdF p s n) (i:=x) (by omega))
 rw[Gy p s n hx] at hc
 by_cases hp:p x=-1
 ·have HPX:=(show Hid _ from hp)
  have hn26:=hn hp
  have hn2:(n:Int)<26:=by omega
  rw[hp] at hc
  have hf:=hr.frozen x
  have hr1:af (w.setCell ⟨q,x,none⟩ (.int .i64 (y:Nat))) q 120 (ints 53 (bdF (upd p x (y:Nat)) s n)):=by
   have h1:=hr.set x (.int .i64 (y:Nat))
   rw[ints_set,zF _ _ _ hx] at h1
   exact h1
  have hg1:=jQ w q x (.int .i64 (y:Nat))
  clear hr hb hp hn
  go_enter Tryz.func62,Tryz.ntmps62
  go_upto_region 3 with fail
  generalize w.setCell ⟨q,x,none⟩ (.int .i64 (y:Nat))=W1 at *
  clear hc hf
  have hSd:∃s',(s'=s∨s'=fun j=>if j=n then x else s j)∧af W1.drew q 120 (ints 53 (bdF (upd p x (y:Nat)) s' n)):=⟨s,.inl rfl,hr1⟩
  have hr1d:af W1.drew q 120 (ints 53 (bdF (upd p x (y:Nat)) s n)):=hr1
  have hg1d:w.grownBy W1.drew (some q):=⟨hg1.os,hg1.tape,hg1.output,hg1.size,hg1.block⟩
  clear hr1 hg1
  refine wp_region_noPanic ?_
  refine wp_region_held_drew (S:=fun W=>∃s',(s'=s∨s'=fun j=>if j=n then x else s j)∧af W q 120 (ints 53 (bdF (upd p x (y:Nat)) s' n))) (by kernel_rfl) hSd (fun hS=>?_)
  clear hSd
  obtain ⟨U,hU⟩:∃x,x=W1.drew:=⟨_,rfl⟩
  rw[←hU] at hS hr1d hg1d ⊢
  clear hU
  refine vtk 0 20 (.pointer (some ⟨q,0,none⟩)) rfl (fun W hW=>by clear hS hW;go_simp) hS ?_
  simp only[zsA,zsB,zsC]
  refine vtk 1 21 (.pointer (some ⟨q,0,none⟩)) rfl (fun W hW=>by clear hS hW;go_simp) hS ?_
  simp only[zsA,zsB,zsC]
  refine vtk 2 22 (.pointer (some ⟨q,0,none⟩)) rfl (fun W hW=>by clear hS hW;go_simp) hS ?_
  simp only[zsA,zsB,zsC]
  refine vtk 3 23 (.pointer (some ⟨q,52,none⟩)) rfl (fun W hW=>by clear hS hW;go_simp) hS ?_
  simp only[zsA,zsB,zsC]
  refine vtk 4 24 (.int .i64 (n:Nat)) rfl (fun W hW=>by obtain ⟨s',_,hW⟩:=hW;have u:=hW.cell (aB (bdF (upd p x (y:Nat)) s' n) (i:=52) (by omega));rw[Kb] at u;clear hS hW;go_simp) hS ?_
  simp only[zsA,zsB,zsC]
  refine vtk 5 25 (.int .i64 (x:Nat)) rfl (fun W hW=>by clear hS hW;go_simp) hS ?_
  simp only[zsA,zsB,zsC]
  refine vtk 6 26 (.pointer (some ⟨q,0,none⟩)) rfl (fun W hW=>by clear hS hW;go_simp) hS ?_
  simp only[zsA,zsB,zsC]
  refine vtk 7 27 (.pointer (some ⟨q,26,none⟩)) rfl (fun W hW=>by clear hS hW;go_simp) hS ?_
  simp only[zsA,zsB,zsC]
  refine vtk 8 28 (.pointer (some ⟨q,26+n,none⟩)) rfl (fun W hW=>by clear hS hW;go_simp) hS ?_
  simp only[zsA,zsB,zsC]
  refine rd1 9 rfl (fun K hK=>?_)
  have hc1:=hr1d.cell (aB (bdF (upd p x (y:Nat)) s n) (i:=26+n) (by omega))
  have hf1:=hr1d.frozen (26+n)
  have hr2:af (U.setCell ⟨q,26+n,none⟩ (.int .i64 (x:Nat))) q 120 (ints 53 (bdF (upd p x (y:Nat)) (fun j=>if j=n then x else s j) n)):=by
   have h1:=hr1d.set (26+n) (.int .i64 (x:Nat))
   rw[ints_set,Fs _ _ _ hn26] at h1
   exact h1
  have hg2:=nU hg1d (jQ U q (26+n) (.int .i64 (x:Nat)))
  generalize bdF (upd p x (y:Nat)) s n=F0 at *
  go_simp
  refine hK.out _ _ ⟨_,.inr rfl,hr2⟩ (fun _=>?_)
  clear hK K hS hr1d hc1 hf1 hg1d
  refine wpAnyH_done (by kernel_rfl) ?_ _
  refine NoPanic.normal ?_
  generalize U.setCell ⟨q,26+n,none⟩ (.int .i64 (x:Nat))=U2 at *
  have c2:=hr2.cell (aB (bdF (upd p x (y:Nat)) (fun j=>if j=n then x else s j) n) (i:=52) (by omega))
  rw[Kb] at c2
  have f2:=hr2.frozen 52
  have hr3:af (U2.setCell ⟨q,52,none⟩ (.int .i64 ((n:Int)+1))) q 120 (ints 53 (bdF (upd p x (y:Nat)) (fun j=>if j=n then x else s j) (n+1))):=by
   have h1:=hr2.set 52 (.int .i64 ((n:Int)+1))
   have e:((n:Int)+1)=((n+1:Nat):Int):=by omega
   rw[ints_set,e,GL] at h1
   rw[e]
   exact h1
  have hg3:=nU hg2 (jQ U2 q 52 (.int .i64 ((n:Int)+1)))
  have c3:=hr3.cell (aB (bdF (upd p x (y:Nat)) (fun j=>if j=n then x else s j) (n+1)) (i:=x) (by omega))
  rw[Gy _ _ _ hx,upd_same] at c3
  have HR3:=(show Hid _ from hr3)
  have HG3:=(show Hid _ from hg3)
  have hyy:(((y:Nat):Int)==((y:Nat):Int))=true:=by simp
  clear hr2 hg2 hr3 hg3
  go_wp2
  go_ret
  exact ⟨HG3.out,.inl ⟨HPX.out,rfl,HR3.out⟩⟩
 ·have HPX:=(show Hid _ from hp)
  have HR:=(show Hid _ from hr)
  have hpb:(p x==-1)=false:=by simpa using hp
  clear hb hn hr hp
  generalize p x=v at *
  go_enter Tryz.func62,Tryz.ntmps62
  go_wp2
  go_ret
  exact ⟨World.grownBy.refl _ _,.inr ⟨HPX.out,rfl,HR.out⟩⟩
end
end Go.Proofs.YtgacaecjinlhiaaGreatDoor
