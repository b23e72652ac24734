import Derived.Test.YtpcnpkhgjanamaaGreatDoorPz
import Derived.Conc.CompanyDraw
import Derived.Test.YtpcnpkhgjanamaaGreatDoorJn36
namespace Go.Proofs.YtpcnpkhgjanamaaGreatDoor
open Go.Proofs.Tryz renaming prog→qf,f33→Yf,f27→Yg
open Go renaming Value→R2,World→V8,TypeId→Wj
open _root_.List renaming not_mem_nil→Xd
open Go.Conc renaming mem_listed→Xi,AtRel→XP,anyCH_all→XV
set_option maxRecDepth 100000
set_option maxHeartbeats 2000000
open Go.RowKit PK Vg Go.Conc Cs
variable{hv:Bool}
structure Z7(H:Array Obj)(o:Os)(out:Array (Nat×ByteArray))(W:V8):Prop where
 old:∀b,b<H.size→W.heap[b]?=H[b]?
 size:H.size≤W.heap.size
 os:W.os=o
 output:W.output=out
def ZC(H:Array Obj)(W:V8)(C:Nat):Prop:=H.size≤C∧W.heap[C]?=some (.chan 0 #[] false 0 0 false)
def ZB(H:Array Obj)(W:V8)(b:Nat)(T:Wj)(v:R2):Prop:=H.size≤b∧W.heap[b]?=some (.cells #[v] T (0,0))
section
variable{H:Array Obj}{o:Os}{out:Array (Nat×ByteArray)}{W:V8}
theorem Z7.at'(h:Z7 H o out W)(d:Nat):Z7 H o out (W.at d):=⟨h.old,h.size,h.os,h.output⟩
theorem bS{b:Nat}{x:Obj}(h:W.heap[b]?=some x):b<W.heap.size:=(Wd.1 h).1
theorem Ba{b:Nat}{x y:Obj}(h:W.heap[b]?=some x):(W.alloc y).heap[b]?=some x:=by
 show(W.heap.push y)[b]?=_;rw[Wq,V9 (by have:=bS h;omega)];exact h
theorem Bw(y:Obj):(W.alloc y).heap[W.heap.size]?=some y:=by
 show(W.heap.push y)[W.heap.size]?=_;rw[Wq,Wc rfl]
theorem Z7.alloc(h:Z7 H o out W)(y:Obj):Z7 H o out (W.alloc y):=by
 refine⟨fun b hb=>?_,by show _≤(W.heap.push y).size;rw[YG];have:=h.size;omega,h.os,h.output⟩;show(W.heap.push y)[b]?=_;rw[Wq,V9 (by have:=h.size;omega)];exact h.old b hb
theorem ZC.alloc{C:Nat}(h:ZC H W C)(y:Obj):ZC H (W.alloc y) C:=⟨h.1,Ba h.2⟩
theorem ZB.alloc{b:Nat}{T:Wj}{v:R2}(h:ZB H W b T v)(y:Obj):ZB H (W.alloc y) b T v:=⟨h.1,Ba h.2⟩
theorem ZC.new(h:Z7 H o out W):ZC H (W.alloc (.chan 0 #[] false 0 0 false)) W.heap.size:=⟨h.size,Bw _⟩
theorem ZB.new(h:Z7 H o out W)(T:Wj)(v:R2):ZB H (W.alloc (.cells #[v] T)) W.heap.size T v:=⟨h.size,Bw _⟩
theorem KB{b:Nat}{T:Wj}{v u:R2}(h:W.heap[b]?=some (.cells #[v] T (0,0))):(W.setCell ⟨b,0,none⟩ u).heap[b]?=some (.cells #[u] T (0,0)):=by
 have:=heap_setCell_same W b 0 #[v] T u h;exact this
theorem yY{b c:Nat}{u:R2}(hne:c≠b):(W.setCell ⟨b,0,none⟩ u).heap[c]?=W.heap[c]?:=WT W ⟨b,0,none⟩ c u hne
theorem oY{b:Nat}{T:Wj}{v u:R2}(_h:W.heap[b]?=some (.cells #[v] T (0,0))):W.heap.size≤(W.setCell ⟨b,0,none⟩ u).heap.size:=((Below.refl 0 W).setCell (p:=⟨b,0,none⟩) (XE _) u).size
theorem Z7.set{b:Nat}{T:Wj}{v:R2}(h:Z7 H o out W)(hb:ZB H W b T v)(u:R2):Z7 H o out (W.setCell ⟨b,0,none⟩ u):=by
 have hB:=(Below.refl 0 W).setCell (p:=⟨b,0,none⟩) (XE _) u;refine⟨fun c hc=>?_,Ws h.size hB.size,hB.os.trans h.os,hB.output.trans h.output⟩;rw[yY (by have:=hb.1;omega)];exact h.old c hc
theorem ZB.set{b:Nat}{T:Wj}{v:R2}(hb:ZB H W b T v)(u:R2):ZB H (W.setCell ⟨b,0,none⟩ u) b T u:=⟨hb.1,KB hb.2⟩
theorem ZC.set{b C:Nat}{T:Wj}{v:R2}(h:ZC H W C)(hb:ZB H W b T v)(u:R2):ZC H (W.setCell ⟨b,0,none⟩ u) C:=⟨h.1,by
 rw[yY (fun e=>?_)]
 ·exact h.2
 ·have h1:=h.2
  rw[e,hb.2]at h1;cases h1⟩
theorem ZB.setOther{b b':Nat}{T T':Wj}{v v':R2}(h:ZB H W b' T' v')(hb:ZB H W b T v)(hT:T'≠T)(u:R2):ZB H (W.setCell ⟨b,0,none⟩ u) b' T' v':=⟨h.1,by
 rw[yY (fun e=>?_)]
 ·exact h.2
 ·have h1:=h.2
  rw[e,hb.2]at h1;injection h1 with h1;injection h1 with _ h3;exact hT h3.symm⟩
end
theorem rP{P:Program}{R:V8→V8→Prop}{D:V8→V8→Array Event→Prop}{fn:FuncId}{ops:Array Oper}{i:Nat}{K:Act→V8→Prop}{a:Act}{w:V8}{o:Oper}(ho:ops[i]?=some o)(hw:Region.wanted o (yielded ops a.tmps)=true)(h:∀w₁,R w w₁→∀K':Act→V8→Prop,(∀a' w',D w₁ w' (listed P fn a o w₁)∧K a' w'→K' a' w')→uponK o a K' ((execOp a.eval o).run P w₁)):OpC P R D fn ops i K a w:=by
 unfold OpC;rw[ho];dsimp only;rw[if_pos hw];exact fun w₁ h₁=>h w₁ h₁ _ fun _ _ x=>x
theorem pn{Fd:Nat}(W:V8)(y:Obj){es:Array Event}(hes:∀e∈es,False):DN Fd W (W.alloc y) es:=⟨by show _≤(W.heap.push y).size;rw[YG];omega,fun e he=>(hes e he).elim⟩
theorem S5:∃i,qf.info? 3=some i∧i.bytes=8:=by
 obtain⟨i,h1,h2⟩:=Xt.1 (show(qf.info? 3).map (·.bytes)=some 8 by kernel_rfl);exact⟨i,h1,h2⟩
theorem QA:∃i,qf.info? 4=some i∧i.bytes=1:=by
 obtain⟨i,h1,h2⟩:=Xt.1 (show(qf.info? 4).map (·.bytes)=some 1 by kernel_rfl);exact⟨i,h1,h2⟩
abbrev A7(v:Nat→R2)(n bM bL Fd:Nat)(r s p q:R2):Act:=⟨#[v 0,.int .i64 (n:Nat),v 2,.pointer (some ⟨bM,0,none⟩),v 4,.pointer (some ⟨bL,0,none⟩),v 6,v 7,v 8,.pointer (some ⟨Fd,0,none⟩),r,s,v 12,v 13,v 14,v 15,v 16,v 17,v 18,v 19,v 20,v 21,v 22,v 23,p,q,v 26,v 27,v 28,v 29,v 30,v 31,v 32,v 33,v 34,v 35,v 36,v 37,v 38,v 39,v 40,v 41,v 42,v 43,v 44,v 45,v 46,v 47,v 48,v 49,v 50,v 51,v 52],[]⟩
section
variable{n bM bL Fd:Nat}{p q r s:R2}{v:Nat→R2}{W:V8}{K:Act→V8→Prop}
theorem sC(h:∀d,K (A7 v n bM bL Fd r s (.chan (some (W.heap.size))) q) ((W.at d).alloc (.chan 0 #[] false 0 0 false))):OpC qf XP (DN Fd) (eN hv) (mO hv) 0 K (A7 v n bM bL Fd r s p q) W:=by
 unfold A7 at h⊢;cases hv
 all_goals
  simp only[mO,Mc,Jq,Kw,dK,pk,Yf,Yg,Ww];refine rP rfl rfl (fun w₁ h₁ K' hK'=>?_);obtain⟨d,rfl⟩:=h₁;have hd:=h d;go_simp;refine hK' _ _ ⟨pn _ _ (fun e he=>?_),hd⟩;have hm:=Xi he;obtain⟨i,hi,hb⟩:=S5;have a:=events_makeChan (w:=W.at d) Tryz.underlying110 hi .i64 0 vde (by rw[hb];decide) #[];simp[go_sem]at hm;rw[show(Instr.makeChan 110 (.int .i64 0)).events qf (W.at d) #[]=#[]from a]at hm;simp at hm
theorem oX(h:∀d,K (A7 v n bM bL Fd r s p (.chan (some (W.heap.size)))) ((W.at d).alloc (.chan 0 #[] false 0 0 false))):OpC qf XP (DN Fd) (eN hv) (mO hv) 1 K (A7 v n bM bL Fd r s p q) W:=by
 unfold A7 at h⊢;cases hv
 all_goals
  simp only[mO,Mc,Jq,Kw,dK,pk,Yf,Yg,Ww];refine rP rfl rfl (fun w₁ h₁ K' hK'=>?_);obtain⟨d,rfl⟩:=h₁;have hd:=h d;go_simp;refine hK' _ _ ⟨pn _ _ (fun e he=>?_),hd⟩;have hm:=Xi he;obtain⟨i,hi,hb⟩:=QA;have a:=events_makeChan (w:=W.at d) Tryz.underlying111 hi .i64 0 vde (by rw[hb];decide) #[];simp[go_sem]at hm;rw[show(Instr.makeChan 111 (.int .i64 0)).events qf (W.at d) #[]=#[]from a]at hm;simp at hm
theorem sr(h:∀d,K (A7 v n bM bL Fd (.pointer (some ⟨W.heap.size,0,none⟩)) s p q) ((W.at d).alloc (.cells #[.chan none] 110))):OpC qf XP (DN Fd) (eN hv) (mO hv) 2 K (A7 v n bM bL Fd r s p q) W:=by
 unfold A7 at h⊢;cases hv
 all_goals
  simp only[mO,Mc,Jq,Kw,dK,pk,Yf,Yg,Ww];refine rP rfl rfl (fun w₁ h₁ K' hK'=>?_);obtain⟨d,rfl⟩:=h₁;have hd:=h d;go_simp;refine hK' _ _ ⟨pn _ _ (fun e he=>?_),hd⟩;have hm:=Xi he;simp[go_sem]at hm
theorem sX(h:∀d,K (A7 v n bM bL Fd r (.pointer (some ⟨W.heap.size,0,none⟩)) p q) ((W.at d).alloc (.cells #[.chan none] 111))):OpC qf XP (DN Fd) (eN hv) (mO hv) 3 K (A7 v n bM bL Fd r s p q) W:=by
 unfold A7 at h⊢;cases hv
 all_goals
  simp only[mO,Mc,Jq,Kw,dK,pk,Yf,Yg,Ww];refine rP rfl rfl (fun w₁ h₁ K' hK'=>?_);obtain⟨d,rfl⟩:=h₁;have hd:=h d;go_simp;refine hK' _ _ ⟨pn _ _ (fun e he=>?_),hd⟩;have hm:=Xi he;simp[go_sem]at hm
theorem P6{b C:Nat}{T0:R2}(hb:W.heap[b]?=some (.cells #[T0] 110 (0,0)))(hne:b≠Fd)(h:∀d,K (A7 v n bM bL Fd (.pointer (some ⟨b,0,none⟩)) s (.chan (some C)) q) ((W.at d).setCell ⟨b,0,none⟩ (.chan (some C)))):OpC qf XP (DN Fd) (eN hv) (mO hv) 4 K (A7 v n bM bL Fd (.pointer (some ⟨b,0,none⟩)) s (.chan (some C)) q) W:=by
 unfold A7 at h⊢;cases hv
 all_goals
  simp only[mO,Mc,Jq,Kw,dK,pk,Yf,Yg,Ww];refine rP rfl rfl (fun w₁ h₁ K' hK'=>?_);obtain⟨d,rfl⟩:=h₁
  have hc:(W.at d).cell? ⟨b,0,none⟩=some T0:=by
   have h2:(W.at d).heap[b]?=some (.cells #[T0] 110 (0,0)):=hb;rw[Xf _ _ _ _ _ _ h2]
   rfl
  have hf:(W.at d).frozen? ⟨b,0,none⟩=false:=frozen_of_row (W.at d) b 0 #[T0] 110 hb;have a:b<W.heap.size:=bS hb;have hd:=h d;go_simp;refine hK' _ _ ⟨⟨oY (W:=W.at d) hb,fun e he=>?_⟩,hd⟩;have hm:=Xi he;simp[go_sem,hc,hf]at hm;subst hm;exact⟨⟨fun x e=>(by cases e;exact WE a (oY (W:=W.at d) hb)),fun m e=>by cases e⟩,fun x e ad e2=>(by cases e;cases e2;exact hne)⟩
theorem TY{b C:Nat}{T0:R2}(hb:W.heap[b]?=some (.cells #[T0] 111 (0,0)))(hne:b≠Fd)(h:∀d,K (A7 v n bM bL Fd r (.pointer (some ⟨b,0,none⟩)) p (.chan (some C))) ((W.at d).setCell ⟨b,0,none⟩ (.chan (some C)))):OpC qf XP (DN Fd) (eN hv) (mO hv) 5 K (A7 v n bM bL Fd r (.pointer (some ⟨b,0,none⟩)) p (.chan (some C))) W:=by
 unfold A7 at h⊢;cases hv
 all_goals
  simp only[mO,Mc,Jq,Kw,dK,pk,Yf,Yg,Ww];refine rP rfl rfl (fun w₁ h₁ K' hK'=>?_);obtain⟨d,rfl⟩:=h₁
  have hc:(W.at d).cell? ⟨b,0,none⟩=some T0:=by
   have h2:(W.at d).heap[b]?=some (.cells #[T0] 111 (0,0)):=hb;rw[Xf _ _ _ _ _ _ h2]
   rfl
  have hf:(W.at d).frozen? ⟨b,0,none⟩=false:=frozen_of_row (W.at d) b 0 #[T0] 111 hb;have a:b<W.heap.size:=bS hb;have hd:=h d;go_simp;refine hK' _ _ ⟨⟨oY (W:=W.at d) hb,fun e he=>?_⟩,hd⟩;have hm:=Xi he;simp[go_sem,hc,hf]at hm;subst hm;exact⟨⟨fun x e=>(by cases e;exact WE a (oY (W:=W.at d) hb)),fun m e=>by cases e⟩,fun x e ad e2=>(by cases e;cases e2;exact hne)⟩
end
def Q7(H:Array Obj)(o:Os)(out:Array (Nat×ByteArray))(n bM bL Fd:Nat)(e:Exit)(a:Act)(W:V8):Prop:=e=.normal∧∃(C1 C2 bF bD:Nat) (v0 v2 v4 v6 v7 v8 v12 v13 v14 v15 v16 v17 v18 v19 v20 v21 v22 v23 v26 v27 v28 v29 v30 v31 v32 v33 v34 v35 v36 v37 v38 v39 v40 v41 v42 v43 v44 v45 v46 v47 v48 v49 v50 v51 v52:R2),a=⟨#[v0,.int .i64 (n:Nat),v2,.pointer (some ⟨bM,0,none⟩),v4,.pointer (some ⟨bL,0,none⟩),v6,v7,v8,.pointer (some ⟨Fd,0,none⟩),.pointer (some ⟨bF,0,none⟩),.pointer (some ⟨bD,0,none⟩),v12,v13,v14,v15,v16,v17,v18,v19,v20,v21,v22,v23,.chan (some C1),.chan (some C2),v26,v27,v28,v29,v30,v31,v32,v33,v34,v35,v36,v37,v38,v39,v40,v41,v42,v43,v44,v45,v46,v47,v48,v49,v50,v51,v52],[]⟩∧Z7 H o out W∧ZC H W C1∧ZC H W C2∧C1≠C2∧ZB H W bF 110 (.chan (some C1))∧ZB H W bD 111 (.chan (some C2))
theorem jX{W:V8}{C:Nat}{x:Obj}(h:W.heap[C]?=some x):C≠W.heap.size:=fun e=>by have:=bS h;omega
section
variable{H:Array Obj}{o:Os}{out:Array (Nat×ByteArray)}{n bM bL Fd:Nat}{p q r s:R2}{v:Nat→R2}{W:V8}
theorem Dj(_hF:Fd<H.size)(hz:Z7 H o out W){C1:Nat}(k0:ZC H W C1){C2:Nat}(k1:ZC H W C2)(kn:C1≠C2){bF:Nat}(k2:ZB H W bF 110 (.chan (some C1))){bD:Nat}(k3:ZB H W bD 111 (.chan (some C2))):AnyCH qf XP (DN Fd) (eN hv) .any (mO hv) (Q7 H o out n bM bL Fd) (fun _=>True) 0 #[true,true,true,true,true,true] (A7 v n bM bL Fd (.pointer (some ⟨bF,0,none⟩)) (.pointer (some ⟨bD,0,none⟩)) (.chan (some C1)) (.chan (some C2))) W:=anyCH_done (by cases hv<;>kernel_rfl) ⟨rfl,C1,C2,bF,bD,_,_,_,_,_,_,_,_,_,_,_,_,_,_,_,_,_,_,_,_,_,_,_,_,_,_,_,_,_,_,_,_,_,_,_,_,_,_,_,_,_,_,_,_,_,rfl,hz,k0,k1,kn,k2,k3⟩ 0
theorem ym(hF:Fd<H.size)(hz:Z7 H o out W){C1:Nat}(k0:ZC H W C1){C2:Nat}(k1:ZC H W C2)(kn:C1≠C2){bF:Nat}(k2:ZB H W bF 110 (.chan (some C1))){bD:Nat}(k3:ZB H W bD 111 (.chan none)):AnyCH qf XP (DN Fd) (eN hv) .any (mO hv) (Q7 H o out n bM bL Fd) (fun _=>True) 1 #[true,true,true,true,true,false] (A7 v n bM bL Fd (.pointer (some ⟨bF,0,none⟩)) (.pointer (some ⟨bD,0,none⟩)) (.chan (some C1)) (.chan (some C2))) W:=by
 refine XV (rs:=[5]) (by cases hv<;>kernel_rfl) vsi (fun i hi=>?_);simp only[Xl,Xd,YH]at hi;subst hi
 ·exact TY k3.2 (by have:=k3.1;omega) fun d=>⟨trivial,Dj hF (Z7.set (hz.at' d) (W:=W.at d) k3 _) (ZC.set (W:=W.at d) k0 k3 _) (ZC.set (W:=W.at d) k1 k3 _) kn (ZB.setOther (W:=W.at d) k2 k3 vde _) (ZB.set (W:=W.at d) k3 _)⟩
theorem pK(hF:Fd<H.size)(hz:Z7 H o out W){C1:Nat}(k0:ZC H W C1){C2:Nat}(k1:ZC H W C2)(kn:C1≠C2){bF:Nat}(k2:ZB H W bF 110 (.chan none)){bD:Nat}(k3:ZB H W bD 111 (.chan none)):AnyCH qf XP (DN Fd) (eN hv) .any (mO hv) (Q7 H o out n bM bL Fd) (fun _=>True) 2 #[true,true,true,true,false,false] (A7 v n bM bL Fd (.pointer (some ⟨bF,0,none⟩)) (.pointer (some ⟨bD,0,none⟩)) (.chan (some C1)) (.chan (some C2))) W:=by
 refine XV (rs:=[4]) (by cases hv<;>kernel_rfl) vsi (fun i hi=>?_);simp only[Xl,Xd,YH]at hi;subst hi
 ·exact P6 k2.2 (by have:=k2.1;omega) fun d=>⟨trivial,ym hF (Z7.set (hz.at' d) (W:=W.at d) k2 _) (ZC.set (W:=W.at d) k0 k2 _) (ZC.set (W:=W.at d) k1 k2 _) kn (ZB.set (W:=W.at d) k2 _) (ZB.setOther (W:=W.at d) k3 k2 vde _)⟩
theorem Lb(hF:Fd<H.size)(hz:Z7 H o out W){C1:Nat}(k0:ZC H W C1){bF:Nat}(k2:ZB H W bF 110 (.chan (some C1))){bD:Nat}(k3:ZB H W bD 111 (.chan none)):AnyCH qf XP (DN Fd) (eN hv) .any (mO hv) (Q7 H o out n bM bL Fd) (fun _=>True) 2 #[true,false,true,true,true,false] (A7 v n bM bL Fd (.pointer (some ⟨bF,0,none⟩)) (.pointer (some ⟨bD,0,none⟩)) (.chan (some C1)) q) W:=by
 refine XV (rs:=[1]) (by cases hv<;>kernel_rfl) vsi (fun i hi=>?_);simp only[Xl,Xd,YH]at hi;subst hi
 ·exact oX fun d=>⟨trivial,ym hF ((hz.at' d).alloc _) (ZC.alloc (W:=W.at d) k0 _) (ZC.new (hz.at' d)) (jX k0.2) (ZB.alloc (W:=W.at d) k2 _) (ZB.alloc (W:=W.at d) k3 _)⟩
theorem yX(hF:Fd<H.size)(hz:Z7 H o out W){C1:Nat}(k0:ZC H W C1){C2:Nat}(k1:ZC H W C2)(kn:C1≠C2){bF:Nat}(k2:ZB H W bF 110 (.chan none)):AnyCH qf XP (DN Fd) (eN hv) .any (mO hv) (Q7 H o out n bM bL Fd) (fun _=>True) 3 #[true,true,true,false,false,false] (A7 v n bM bL Fd (.pointer (some ⟨bF,0,none⟩)) s (.chan (some C1)) (.chan (some C2))) W:=by
 refine XV (rs:=[3]) (by cases hv<;>kernel_rfl) vsi (fun i hi=>?_);simp only[Xl,Xd,YH]at hi;subst hi
 ·exact sX fun d=>⟨trivial,pK hF ((hz.at' d).alloc _) (ZC.alloc (W:=W.at d) k0 _) (ZC.alloc (W:=W.at d) k1 _) kn (ZB.alloc (W:=W.at d) k2 _) (ZB.new (hz.at' d) _ _)⟩
theorem zG(hF:Fd<H.size)(hz:Z7 H o out W){C1:Nat}(k0:ZC H W C1){C2:Nat}(k1:ZC H W C2)(kn:C1≠C2){bD:Nat}(k3:ZB H W bD 111 (.chan none)):AnyCH qf XP (DN Fd) (eN hv) .any (mO hv) (Q7 H o out n bM bL Fd) (fun _=>True) 3 #[true,true,false,true,false,false] (A7 v n bM bL Fd r (.pointer (some ⟨bD,0,none⟩)) (.chan (some C1)) (.chan (some C2))) W:=by
 refine XV (rs:=[2]) (by cases hv<;>kernel_rfl) vsi (fun i hi=>?_);simp only[Xl,Xd,YH]at hi;subst hi
 ·exact sr fun d=>⟨trivial,pK hF ((hz.at' d).alloc _) (ZC.alloc (W:=W.at d) k0 _) (ZC.alloc (W:=W.at d) k1 _) kn (ZB.new (hz.at' d) _ _) (ZB.alloc (W:=W.at d) k3 _)⟩
theorem zB(hF:Fd<H.size)(hz:Z7 H o out W){C1:Nat}(k0:ZC H W C1){bF:Nat}(k2:ZB H W bF 110 (.chan none)){bD:Nat}(k3:ZB H W bD 111 (.chan none)):AnyCH qf XP (DN Fd) (eN hv) .any (mO hv) (Q7 H o out n bM bL Fd) (fun _=>True) 3 #[true,false,true,true,false,false] (A7 v n bM bL Fd (.pointer (some ⟨bF,0,none⟩)) (.pointer (some ⟨bD,0,none⟩)) (.chan (some C1)) q) W:=by
 refine XV (rs:=[1,4]) (by cases hv<;>kernel_rfl) vsi (fun i hi=>?_);simp only[Xl,Xd,YH]at hi;rcases hi with rfl|rfl
 ·exact oX fun d=>⟨trivial,pK hF ((hz.at' d).alloc _) (ZC.alloc (W:=W.at d) k0 _) (ZC.new (hz.at' d)) (jX k0.2) (ZB.alloc (W:=W.at d) k2 _) (ZB.alloc (W:=W.at d) k3 _)⟩
 ·exact P6 k2.2 (by have:=k2.1;omega) fun d=>⟨trivial,Lb hF (Z7.set (hz.at' d) (W:=W.at d) k2 _) (ZC.set (W:=W.at d) k0 k2 _) (ZB.set (W:=W.at d) k2 _) (ZB.setOther (W:=W.at d) k3 k2 vde _)⟩
theorem y7(hF:Fd<H.size)(hz:Z7 H o out W){C2:Nat}(k1:ZC H W C2){bF:Nat}(k2:ZB H W bF 110 (.chan none)){bD:Nat}(k3:ZB H W bD 111 (.chan none)):AnyCH qf XP (DN Fd) (eN hv) .any (mO hv) (Q7 H o out n bM bL Fd) (fun _=>True) 3 #[false,true,true,true,false,false] (A7 v n bM bL Fd (.pointer (some ⟨bF,0,none⟩)) (.pointer (some ⟨bD,0,none⟩)) p (.chan (some C2))) W:=by
 refine XV (rs:=[0]) (by cases hv<;>kernel_rfl) vsi (fun i hi=>?_);simp only[Xl,Xd,YH]at hi;subst hi
 ·exact sC fun d=>⟨trivial,pK hF ((hz.at' d).alloc _) (ZC.new (hz.at' d)) (ZC.alloc (W:=W.at d) k1 _) (fun e=>jX k1.2 e.symm) (ZB.alloc (W:=W.at d) k2 _) (ZB.alloc (W:=W.at d) k3 _)⟩
theorem Kv(hF:Fd<H.size)(hz:Z7 H o out W){C1:Nat}(k0:ZC H W C1){C2:Nat}(k1:ZC H W C2)(kn:C1≠C2):AnyCH qf XP (DN Fd) (eN hv) .any (mO hv) (Q7 H o out n bM bL Fd) (fun _=>True) 4 #[true,true,false,false,false,false] (A7 v n bM bL Fd r s (.chan (some C1)) (.chan (some C2))) W:=by
 refine XV (rs:=[2,3]) (by cases hv<;>kernel_rfl) vsi (fun i hi=>?_);simp only[Xl,Xd,YH]at hi;rcases hi with rfl|rfl
 ·exact sr fun d=>⟨trivial,yX hF ((hz.at' d).alloc _) (ZC.alloc (W:=W.at d) k0 _) (ZC.alloc (W:=W.at d) k1 _) kn (ZB.new (hz.at' d) _ _)⟩
 ·exact sX fun d=>⟨trivial,zG hF ((hz.at' d).alloc _) (ZC.alloc (W:=W.at d) k0 _) (ZC.alloc (W:=W.at d) k1 _) kn (ZB.new (hz.at' d) _ _)⟩
theorem KE(hF:Fd<H.size)(hz:Z7 H o out W){C1:Nat}(k0:ZC H W C1){bF:Nat}(k2:ZB H W bF 110 (.chan none)):AnyCH qf XP (DN Fd) (eN hv) .any (mO hv) (Q7 H o out n bM bL Fd) (fun _=>True) 4 #[true,false,true,false,false,false] (A7 v n bM bL Fd (.pointer (some ⟨bF,0,none⟩)) s (.chan (some C1)) q) W:=by
 refine XV (rs:=[1,3]) (by cases hv<;>kernel_rfl) vsi (fun i hi=>?_);simp only[Xl,Xd,YH]at hi;rcases hi with rfl|rfl
 ·exact oX fun d=>⟨trivial,yX hF ((hz.at' d).alloc _) (ZC.alloc (W:=W.at d) k0 _) (ZC.new (hz.at' d)) (jX k0.2) (ZB.alloc (W:=W.at d) k2 _)⟩
 ·exact sX fun d=>⟨trivial,zB hF ((hz.at' d).alloc _) (ZC.alloc (W:=W.at d) k0 _) (ZB.alloc (W:=W.at d) k2 _) (ZB.new (hz.at' d) _ _)⟩
theorem KT(hF:Fd<H.size)(hz:Z7 H o out W){C1:Nat}(k0:ZC H W C1){bD:Nat}(k3:ZB H W bD 111 (.chan none)):AnyCH qf XP (DN Fd) (eN hv) .any (mO hv) (Q7 H o out n bM bL Fd) (fun _=>True) 4 #[true,false,false,true,false,false] (A7 v n bM bL Fd r (.pointer (some ⟨bD,0,none⟩)) (.chan (some C1)) q) W:=by
 refine XV (rs:=[1,2]) (by cases hv<;>kernel_rfl) vsi (fun i hi=>?_);simp only[Xl,Xd,YH]at hi;rcases hi with rfl|rfl
 ·exact oX fun d=>⟨trivial,zG hF ((hz.at' d).alloc _) (ZC.alloc (W:=W.at d) k0 _) (ZC.new (hz.at' d)) (jX k0.2) (ZB.alloc (W:=W.at d) k3 _)⟩
 ·exact sr fun d=>⟨trivial,zB hF ((hz.at' d).alloc _) (ZC.alloc (W:=W.at d) k0 _) (ZB.new (hz.at' d) _ _) (ZB.alloc (W:=W.at d) k3 _)⟩
theorem Jr(hF:Fd<H.size)(hz:Z7 H o out W){C2:Nat}(k1:ZC H W C2){bF:Nat}(k2:ZB H W bF 110 (.chan none)):AnyCH qf XP (DN Fd) (eN hv) .any (mO hv) (Q7 H o out n bM bL Fd) (fun _=>True) 4 #[false,true,true,false,false,false] (A7 v n bM bL Fd (.pointer (some ⟨bF,0,none⟩)) s p (.chan (some C2))) W:=by
 refine XV (rs:=[0,3]) (by cases hv<;>kernel_rfl) vsi (fun i hi=>?_);simp only[Xl,Xd,YH]at hi;rcases hi with rfl|rfl
 ·exact sC fun d=>⟨trivial,yX hF ((hz.at' d).alloc _) (ZC.new (hz.at' d)) (ZC.alloc (W:=W.at d) k1 _) (fun e=>jX k1.2 e.symm) (ZB.alloc (W:=W.at d) k2 _)⟩
 ·exact sX fun d=>⟨trivial,y7 hF ((hz.at' d).alloc _) (ZC.alloc (W:=W.at d) k1 _) (ZB.alloc (W:=W.at d) k2 _) (ZB.new (hz.at' d) _ _)⟩
theorem JD(hF:Fd<H.size)(hz:Z7 H o out W){C2:Nat}(k1:ZC H W C2){bD:Nat}(k3:ZB H W bD 111 (.chan none)):AnyCH qf XP (DN Fd) (eN hv) .any (mO hv) (Q7 H o out n bM bL Fd) (fun _=>True) 4 #[false,true,false,true,false,false] (A7 v n bM bL Fd r (.pointer (some ⟨bD,0,none⟩)) p (.chan (some C2))) W:=by
 refine XV (rs:=[0,2]) (by cases hv<;>kernel_rfl) vsi (fun i hi=>?_);simp only[Xl,Xd,YH]at hi;rcases hi with rfl|rfl
 ·exact sC fun d=>⟨trivial,zG hF ((hz.at' d).alloc _) (ZC.new (hz.at' d)) (ZC.alloc (W:=W.at d) k1 _) (fun e=>jX k1.2 e.symm) (ZB.alloc (W:=W.at d) k3 _)⟩
 ·exact sr fun d=>⟨trivial,y7 hF ((hz.at' d).alloc _) (ZC.alloc (W:=W.at d) k1 _) (ZB.new (hz.at' d) _ _) (ZB.alloc (W:=W.at d) k3 _)⟩
theorem Jw(hF:Fd<H.size)(hz:Z7 H o out W){bF:Nat}(k2:ZB H W bF 110 (.chan none)){bD:Nat}(k3:ZB H W bD 111 (.chan none)):AnyCH qf XP (DN Fd) (eN hv) .any (mO hv) (Q7 H o out n bM bL Fd) (fun _=>True) 4 #[false,false,true,true,false,false] (A7 v n bM bL Fd (.pointer (some ⟨bF,0,none⟩)) (.pointer (some ⟨bD,0,none⟩)) p q) W:=by
 refine XV (rs:=[0,1]) (by cases hv<;>kernel_rfl) vsi (fun i hi=>?_);simp only[Xl,Xd,YH]at hi;rcases hi with rfl|rfl
 ·exact sC fun d=>⟨trivial,zB hF ((hz.at' d).alloc _) (ZC.new (hz.at' d)) (ZB.alloc (W:=W.at d) k2 _) (ZB.alloc (W:=W.at d) k3 _)⟩
 ·exact oX fun d=>⟨trivial,y7 hF ((hz.at' d).alloc _) (ZC.new (hz.at' d)) (ZB.alloc (W:=W.at d) k2 _) (ZB.alloc (W:=W.at d) k3 _)⟩
theorem Tv(hF:Fd<H.size)(hz:Z7 H o out W){C1:Nat}(k0:ZC H W C1):AnyCH qf XP (DN Fd) (eN hv) .any (mO hv) (Q7 H o out n bM bL Fd) (fun _=>True) 5 #[true,false,false,false,false,false] (A7 v n bM bL Fd r s (.chan (some C1)) q) W:=by
 refine XV (rs:=[1,2,3]) (by cases hv<;>kernel_rfl) vsi (fun i hi=>?_);simp only[Xl,Xd,YH]at hi;rcases hi with rfl|rfl|rfl
 ·exact oX fun d=>⟨trivial,Kv hF ((hz.at' d).alloc _) (ZC.alloc (W:=W.at d) k0 _) (ZC.new (hz.at' d)) (jX k0.2)⟩
 ·exact sr fun d=>⟨trivial,KE hF ((hz.at' d).alloc _) (ZC.alloc (W:=W.at d) k0 _) (ZB.new (hz.at' d) _ _)⟩
 ·exact sX fun d=>⟨trivial,KT hF ((hz.at' d).alloc _) (ZC.alloc (W:=W.at d) k0 _) (ZB.new (hz.at' d) _ _)⟩
theorem S6(hF:Fd<H.size)(hz:Z7 H o out W){C2:Nat}(k1:ZC H W C2):AnyCH qf XP (DN Fd) (eN hv) .any (mO hv) (Q7 H o out n bM bL Fd) (fun _=>True) 5 #[false,true,false,false,false,false] (A7 v n bM bL Fd r s p (.chan (some C2))) W:=by
 refine XV (rs:=[0,2,3]) (by cases hv<;>kernel_rfl) vsi (fun i hi=>?_);simp only[Xl,Xd,YH]at hi;rcases hi with rfl|rfl|rfl
 ·exact sC fun d=>⟨trivial,Kv hF ((hz.at' d).alloc _) (ZC.new (hz.at' d)) (ZC.alloc (W:=W.at d) k1 _) (fun e=>jX k1.2 e.symm)⟩
 ·exact sr fun d=>⟨trivial,Jr hF ((hz.at' d).alloc _) (ZC.alloc (W:=W.at d) k1 _) (ZB.new (hz.at' d) _ _)⟩
 ·exact sX fun d=>⟨trivial,JD hF ((hz.at' d).alloc _) (ZC.alloc (W:=W.at d) k1 _) (ZB.new (hz.at' d) _ _)⟩
theorem Tw(hF:Fd<H.size)(hz:Z7 H o out W){bF:Nat}(k2:ZB H W bF 110 (.chan none)):AnyCH qf XP (DN Fd) (eN hv) .any (mO hv) (Q7 H o out n bM bL Fd) (fun _=>True) 5 #[false,false,true,false,false,false] (A7 v n bM bL Fd (.pointer (some ⟨bF,0,none⟩)) s p q) W:=by
 refine XV (rs:=[0,1,3]) (by cases hv<;>kernel_rfl) vsi (fun i hi=>?_);simp only[Xl,Xd,YH]at hi;rcases hi with rfl|rfl|rfl
 ·exact sC fun d=>⟨trivial,KE hF ((hz.at' d).alloc _) (ZC.new (hz.at' d)) (ZB.alloc (W:=W.at d) k2 _)⟩
 ·exact oX fun d=>⟨trivial,Jr hF ((hz.at' d).alloc _) (ZC.new (hz.at' d)) (ZB.alloc (W:=W.at d) k2 _)⟩
 ·exact sX fun d=>⟨trivial,Jw hF ((hz.at' d).alloc _) (ZB.alloc (W:=W.at d) k2 _) (ZB.new (hz.at' d) _ _)⟩
theorem Tg(hF:Fd<H.size)(hz:Z7 H o out W){bD:Nat}(k3:ZB H W bD 111 (.chan none)):AnyCH qf XP (DN Fd) (eN hv) .any (mO hv) (Q7 H o out n bM bL Fd) (fun _=>True) 5 #[false,false,false,true,false,false] (A7 v n bM bL Fd r (.pointer (some ⟨bD,0,none⟩)) p q) W:=by
 refine XV (rs:=[0,1,2]) (by cases hv<;>kernel_rfl) vsi (fun i hi=>?_);simp only[Xl,Xd,YH]at hi;rcases hi with rfl|rfl|rfl
 ·exact sC fun d=>⟨trivial,KT hF ((hz.at' d).alloc _) (ZC.new (hz.at' d)) (ZB.alloc (W:=W.at d) k3 _)⟩
 ·exact oX fun d=>⟨trivial,JD hF ((hz.at' d).alloc _) (ZC.new (hz.at' d)) (ZB.alloc (W:=W.at d) k3 _)⟩
 ·exact sr fun d=>⟨trivial,Jw hF ((hz.at' d).alloc _) (ZB.new (hz.at' d) _ _) (ZB.alloc (W:=W.at d) k3 _)⟩
theorem S9(hF:Fd<H.size)(hz:Z7 H o out W):AnyCH qf XP (DN Fd) (eN hv) .any (mO hv) (Q7 H o out n bM bL Fd) (fun _=>True) 6 #[false,false,false,false,false,false] (A7 v n bM bL Fd r s p q) W:=by
 refine XV (rs:=[0,1,2,3]) (by cases hv<;>kernel_rfl) vsi (fun i hi=>?_);simp only[Xl,Xd,YH]at hi;rcases hi with rfl|rfl|rfl|rfl
 ·exact sC fun d=>⟨trivial,Tv hF ((hz.at' d).alloc _) (ZC.new (hz.at' d))⟩
 ·exact oX fun d=>⟨trivial,S6 hF ((hz.at' d).alloc _) (ZC.new (hz.at' d))⟩
 ·exact sr fun d=>⟨trivial,Tw hF ((hz.at' d).alloc _) (ZB.new (hz.at' d) _ _)⟩
 ·exact sX fun d=>⟨trivial,Tg hF ((hz.at' d).alloc _) (ZB.new (hz.at' d) _ _)⟩
theorem Ub{v0 v2 v4 v6 v7 v8 v12 v13 v14 v15 v16 v17 v18 v19 v20 v21 v22 v23 v26 v27 v28 v29 v30 v31 v32 v33 v34 v35 v36 v37 v38 v39 v40 v41 v42 v43 v44 v45 v46 v47 v48 v49 v50 v51 v52:R2}(hF:Fd<H.size)(hz:Z7 H o out W):AnyCH qf XP (DN Fd) (eN hv) .any (mO hv) (Q7 H o out n bM bL Fd) (fun _=>True) 6 #[false,false,false,false,false,false] ⟨#[v0,.int .i64 (n:Nat),v2,.pointer (some ⟨bM,0,none⟩),v4,.pointer (some ⟨bL,0,none⟩),v6,v7,v8,.pointer (some ⟨Fd,0,none⟩),r,s,v12,v13,v14,v15,v16,v17,v18,v19,v20,v21,v22,v23,p,q,v26,v27,v28,v29,v30,v31,v32,v33,v34,v35,v36,v37,v38,v39,v40,v41,v42,v43,v44,v45,v46,v47,v48,v49,v50,v51,v52],[]⟩ W:=S9 (v:=fun i=>#[v0,p,v2,p,v4,p,v6,v7,v8,p,p,p,v12,v13,v14,v15,v16,v17,v18,v19,v20,v21,v22,v23,p,p,v26,v27,v28,v29,v30,v31,v32,v33,v34,v35,v36,v37,v38,v39,v40,v41,v42,v43,v44,v45,v46,v47,v48,v49,v50,v51,v52].getD i p) hF hz
end
end Go.Proofs.YtpcnpkhgjanamaaGreatDoor
