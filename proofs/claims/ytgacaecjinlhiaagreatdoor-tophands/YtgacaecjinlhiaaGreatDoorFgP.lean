import Derived.Conc.CompanyDraw
import Derived.Test.YtgacaecjinlhiaaGreatDoorJn23
namespace Go.Proofs.YtgacaecjinlhiaaGreatDoor
namespace Hb
open Go.RowKit PK Vg Go.Conc Cs
structure Z7 (H:Array Obj) (o:Os) (out:Array (Nat × ByteArray)) (W:World):Prop where
 old:∀b,b<H.size→W.heap[b]? = H[b]?
 size:H.size≤W.heap.size
 os:W.os=o
 output:W.output=out
def ZC (H:Array Obj) (W:World) (C:Nat):Prop:=H.size≤C∧W.heap[C]? = some (.chan 0 #[] false 0 0 false)
def ZB (H:Array Obj) (W:World) (b:Nat) (T:TypeId) (v:Value):Prop:=H.size≤b∧W.heap[b]? = some (.cells #[v] T (0,0))
section
variable {H:Array Obj} {o:Os} {out:Array (Nat × ByteArray)} {W:World}
theorem Z7.at' (h:Z7 H o out W) (d:Nat):Z7 H o out (W.at d):=⟨h.old,h.size,h.os,h.output⟩
theorem cA {b:Nat} {x:Obj} (h:W.heap[b]? = some x):b<W.heap.size:=(Array.getElem?_eq_some_iff.1 h).1
theorem uN {b:Nat} {x y:Obj} (h:W.heap[b]? = some x):(W.alloc y).heap[b]? = some x:=by
 show (W.heap.push y)[b]? = _
 rw[Array.getElem?_push,if_neg (by have:=cA h;omega)]
 exact h
theorem vc (y:Obj):(W.alloc y).heap[W.heap.size]? = some y:=by
 show (W.heap.push y)[W.heap.size]? = _
 rw[Array.getElem?_push,if_pos rfl]
theorem Z7.alloc (h:Z7 H o out W) (y:Obj):Z7 H o out (W.alloc y):=by
 refine ⟨fun b hb=>?_,by show _≤(W.heap.push y).size;rw[Array.size_push];have:=h.size;omega,h.os,h.output⟩
 show (W.heap.push y)[b]? = _
 rw[Array.getElem?_push,if_neg (by have:=h.size;omega)]
 exact h.old b hb
theorem ZC.alloc {C:Nat} (h:ZC H W C) (y:Obj):ZC H (W.alloc y) C:=⟨h.1,uN h.2⟩
theorem ZB.alloc {b:Nat} {T:TypeId} {v:Value} (h:ZB H W b T v) (y:Obj):ZB H (W.alloc y) b T v:=⟨h.1,uN h.2⟩
theorem ZC.new (h:Z7 H o out W):ZC H (W.alloc (.chan 0 #[] false 0 0 false)) W.heap.size:=⟨h.size,vc _⟩
theorem ZB.new (h:Z7 H o out W) (T:TypeId) (v:Value):ZB H (W.alloc (.cells #[v] T)) W.heap.size T v:=⟨h.size,vc _⟩
theorem Ch {b:Nat} {T:TypeId} {v u:Value} (h:W.heap[b]? = some (.cells #[v] T (0,0))):(W.setCell ⟨b,0,none⟩ u).heap[b]? = some (.cells #[u] T (0,0)):=by
 have:=heap_setCell_same W b 0 #[v] T u h
 exact this
theorem uw {b c:Nat} {u:Value} (hne:c≠b):(W.setCell ⟨b,0,none⟩ u).heap[c]? = W.heap[c]?:=heap_setCell_other W ⟨b,0,none⟩ c u hne
theorem mh {b:Nat} {T:TypeId} {v u:Value} (_h:W.heap[b]? = some (.cells #[v] T (0,0))):W.heap.size≤(W.setCell ⟨b,0,none⟩ u).heap.size:=((Below.refl 0 W).setCell (p:=⟨b,0,none⟩) (Nat.zero_le _) u).size
theorem Z7.set {b:Nat} {T:TypeId} {v:Value} (h:Z7 H o out W) (hb:ZB H W b T v) (u:Value):Z7 H o out (W.setCell ⟨b,0,none⟩ u):=by
 have hB:=(Below.refl 0 W).setCell (p:=⟨b,0,none⟩) (Nat.zero_le _) u
 refine ⟨fun c hc=>?_,Nat.le_trans h.size hB.size,hB.os.trans h.os,hB.output.trans h.output⟩
 rw[uw (by have:=hb.1;omega)]
 exact h.old c hc
theorem ZB.set {b:Nat} {T:TypeId} {v:Value} (hb:ZB H W b T v) (u:Value):ZB H (W.setCell ⟨b,0,none⟩ u) b T u:=⟨hb.1,Ch hb.2⟩
theorem ZC.set {b C:Nat} {T:TypeId} {v:Value} (h:ZC H W C) (hb:ZB H W b T v) (u:Value):ZC H (W.setCell ⟨b,0,none⟩ u) C:=⟨h.1,by
 rw[uw (fun e=>?_)]
 ·exact h.2
 ·have h1:=h.2
  rw[e,hb.2] at h1
  cases h1⟩
theorem ZB.setOther {b b':Nat} {T T':TypeId} {v v':Value} (h:ZB H W b' T' v') (hb:ZB H W b T v) (hT:T'≠T) (u:Value):ZB H (W.setCell ⟨b,0,none⟩ u) b' T' v':=⟨h.1,by
 rw[uw (fun e=>?_)]
 ·exact h.2
 ·have h1:=h.2
  rw[e,hb.2] at h1
  injection h1 with h1
  injection h1 with _ h3
  exact hT h3.symm⟩
end
theorem mQ {P:Program} {R:World→World→Prop} {D:World→World→Array Event→Prop} {fn:FuncId} {ops:Array Oper} {i:Nat} {K:Act→World→Prop} {a:Act} {w:World} {o:Oper} (ho:ops[i]? = some o) (hw:Region.wanted o (yielded ops a.tmps)=true) (h:∀w₁,R w w₁→∀K':Act→World→Prop,(∀a' w',D w₁ w' (listed P fn a o w₁)∧K a' w'→K' a' w')→uponK o a K' ((execOp a.eval o).run P w₁)):OpC P R D fn ops i K a w:=by
 unfold OpC
 rw[ho]
 dsimp only
 rw[if_pos hw]
 exact fun w₁ h₁=>h w₁ h₁ _ fun _ _ x=>x
theorem lQ {Fd:Nat} (W:World) (y:Obj) {es:Array Event} (hes:∀e ∈ es,False):DN Fd W (W.alloc y) es:=⟨by show _≤(W.heap.push y).size;rw[Array.size_push];omega,fun e he=>(hes e he).elim⟩
theorem Ku:∃i,Tryz.prog.info? 3=some i∧i.bytes=8:=by
 obtain ⟨i,h1,h2⟩:=Option.map_eq_some_iff.1 (show (Tryz.prog.info? 3).map (·.bytes)=some 8 by kernel_rfl)
 exact ⟨i,h1,h2⟩
theorem IA:∃i,Tryz.prog.info? 4=some i∧i.bytes=1:=by
 obtain ⟨i,h1,h2⟩:=Option.map_eq_some_iff.1 (show (Tryz.prog.info? 4).map (·.bytes)=some 1 by kernel_rfl)
 exact ⟨i,h1,h2⟩
section
variable {n bM bL Fd:Nat} {p q r s v0 v2 v4 v6 v7 v8 v12 v13 v14 v15 v16 v17 v18 v19 v20 v21 v22 v23 v26 v27 v28 v29 v30 v31 v32 v33 v34 v35 v36 v37 v38 v39 v40 v41 v42 v43 v44 v45 v46 v47 v48 v49 v50 v51 v52:Value} {W:World} {K:Act→World→Prop}
set_option maxRecDepth 100000 in
set_option maxHeartbeats 2000000 in
theorem od (h:∀d,K ⟨#[v0,.int .i64 (n:Nat),v2,.pointer (some ⟨bM,0,none⟩),v4,.pointer (some ⟨bL,0,none⟩),v6,v7,v8,.pointer (some ⟨Fd,0,none⟩),r,s,v12,v13,v14,v15,v16,v17,v18,v19,v20,v21,v22,v23,.chan (some (W.heap.size)),q,v26,v27,v28,v29,v30,v31,v32,v33,v34,v35,v36,v37,v38,v39,v40,v41,v42,v43,v44,v45,v46,v47,v48,v49,v50,v51,v52],[]⟩ ((W.at d).alloc (.chan 0 #[] false 0 0 false))):OpC Tryz.prog AtRel (DN Fd) 11 eO7 0 K ⟨#[v0,.int .i64 (n:Nat),v2,.pointer (some ⟨bM,0,none⟩),v4,.pointer (some ⟨bL,0,none⟩),v6,v7,v8,.pointer (some ⟨Fd,0,none⟩),r,s,v12,v13,v14,v15,v16,v17,v18,v19,v20,v21,v22,v23,p,q,v26,v27,v28,v29,v30,v31,v32,v33,v34,v35,v36,v37,v38,v39,v40,v41,v42,v43,v44,v45,v46,v47,v48,v49,v50,v51,v52],[]⟩ W:=by
 simp only[eO7,eX4,eX2,eX1,dm,Tryz.f11,Option.getD_some]
 refine mQ rfl rfl (fun w₁ h₁ K' hK'=>?_)
 obtain ⟨d,rfl⟩:=h₁
 have hd:=h d
 go_simp
 refine hK' _ _ ⟨lQ _ _ (fun e he=>?_),hd⟩
 have hm:=mem_listed he
 obtain ⟨i,hi,hb⟩:=Ku
 have hev:=events_makeChan (w:=W.at d) Tryz.underlying78 hi .i64 0 (by decide) (by rw[hb];decide) #[]
 simp[go_sem] at hm
 rw[show (Instr.makeChan 78 (.int .i64 0)).events Tryz.prog (W.at d) #[]=#[] from hev] at hm
 simp at hm
set_option maxRecDepth 100000 in
set_option maxHeartbeats 2000000 in
theorem kT (h:∀d,K ⟨#[v0,.int .i64 (n:Nat),v2,.pointer (some ⟨bM,0,none⟩),v4,.pointer (some ⟨bL,0,none⟩),v6,v7,v8,.pointer (some ⟨Fd,0,none⟩),r,s,v12,v13,v14,v15,v16,v17,v18,v19,v20,v21,v22,v23,p,.chan (some (W.heap.size)),v26,v27,v28,v29,v30,v31,v32,v33,v34,v35,v36,v37,v38,v39,v40,v41,v42,v43,v44,v45,v46,v47,v48,v49,v50,v51,v52],[]⟩ ((W.at d).alloc (.chan 0 #[] false 0 0 false))):OpC Tryz.prog AtRel (DN Fd) 11 eO7 1 K ⟨#[v0,.int .i64 (n:Nat),v2,.pointer (some ⟨bM,0,none⟩),v4,.pointer (some ⟨bL,0,none⟩),v6,v7,v8,.pointer (some ⟨Fd,0,none⟩),r,s,v12,v13,v14,v15,v16,v17,v18,v19,v20,v21,v22,v23,p,q,v26,v27,v28,v29,v30,v31,v32,v33,v34,v35,v36,v37,v38,v39,v40,v41,v42,v43,v44,v45,v46,v47,v48,v49,v50,v51,v52],[]⟩ W:=by
 simp only[eO7,eX4,eX2,eX1,dm,Tryz.f11,Option.getD_some]
 refine mQ rfl rfl (fun w₁ h₁ K' hK'=>?_)
 obtain ⟨d,rfl⟩:=h₁
 have hd:=h d
 go_simp
 refine hK' _ _ ⟨lQ _ _ (fun e he=>?_),hd⟩
 have hm:=mem_listed he
 obtain ⟨i,hi,hb⟩:=IA
 have hev:=events_makeChan (w:=W.at d) Tryz.underlying79 hi .i64 0 (by decide) (by rw[hb];decide) #[]
 simp[go_sem] at hm
 rw[show (Instr.makeChan 79 (.int .i64 0)).events Tryz.prog (W.at d) #[]=#[] from hev] at hm
 simp at hm
set_option maxRecDepth 100000 in
set_option maxHeartbeats 2000000 in
theorem n8 (h:∀d,K ⟨#[v0,.int .i64 (n:Nat),v2,.pointer (some ⟨bM,0,none⟩),v4,.pointer (some ⟨bL,0,none⟩),v6,v7,v8,.pointer (some ⟨Fd,0,none⟩),.pointer (some ⟨W.heap.size,0,none⟩),s,v12,v13,v14,v15,v16,v17,v18,v19,v20,v21,v22,v23,p,q,v26,v27,v28,v29,v30,v31,v32,v33,v34,v35,v36,v37,v38,v39,v40,v41,v42,v43,v44,v45,v46,v47,v48,v49,v50,v51,v52],[]⟩ ((W.at d).alloc (.cells #[.chan none] 78))):OpC Tryz.prog AtRel (DN Fd) 11 eO7 2 K ⟨#[v0,.int .i64 (n:Nat),v2,.pointer (some ⟨bM,0,none⟩),v4,.pointer (some ⟨bL,0,none⟩),v6,v7,v8,.pointer (some ⟨Fd,0,none⟩),r,s,v12,v13,v14,v15,v16,v17,v18,v19,v20,v21,v22,v23,p,q,v26,v27,v28,v29,v30,v31,v32,v33,v34,v35,v36,v37,v38,v39,v40,v41,v42,v43,v44,v45,v46,v47,v48,v49,v50,v51,v52],[]⟩ W:=by
 simp only[eO7,eX4,eX2,eX1,dm,Tryz.f11,Option.getD_some]
 refine mQ rfl rfl (fun w₁ h₁ K' hK'=>?_)
 obtain ⟨d,rfl⟩:=h₁
 have hd:=h d
 go_simp
 refine hK' _ _ ⟨lQ _ _ (fun e he=>?_),hd⟩
 have hm:=mem_listed he
 simp[go_sem] at hm
set_option maxRecDepth 100000 in
set_option maxHeartbeats 2000000 in
theorem n9 (h:∀d,K ⟨#[v0,.int .i64 (n:Nat),v2,.pointer (some ⟨bM,0,none⟩),v4,.pointer (some ⟨bL,0,none⟩),v6,v7,v8,.pointer (some ⟨Fd,0,none⟩),r,.pointer (some ⟨W.heap.size,0,none⟩),v12,v13,v14,v15,v16,v17,v18,v19,v20,v21,v22,v23,p,q,v26,v27,v28,v29,v30,v31,v32,v33,v34,v35,v36,v37,v38,v39,v40,v41,v42,v43,v44,v45,v46,v47,v48,v49,v50,v51,v52],[]⟩ ((W.at d).alloc (.cells #[.chan none] 79))):OpC Tryz.prog AtRel (DN Fd) 11 eO7 3 K ⟨#[v0,.int .i64 (n:Nat),v2,.pointer (some ⟨bM,0,none⟩),v4,.pointer (some ⟨bL,0,none⟩),v6,v7,v8,.pointer (some ⟨Fd,0,none⟩),r,s,v12,v13,v14,v15,v16,v17,v18,v19,v20,v21,v22,v23,p,q,v26,v27,v28,v29,v30,v31,v32,v33,v34,v35,v36,v37,v38,v39,v40,v41,v42,v43,v44,v45,v46,v47,v48,v49,v50,v51,v52],[]⟩ W:=by
 simp only[eO7,eX4,eX2,eX1,dm,Tryz.f11,Option.getD_some]
 refine mQ rfl rfl (fun w₁ h₁ K' hK'=>?_)
 obtain ⟨d,rfl⟩:=h₁
 have hd:=h d
 go_simp
 refine hK' _ _ ⟨lQ _ _ (fun e he=>?_),hd⟩
 have hm:=mem_listed he
 simp[go_sem] at hm
set_option maxRecDepth 100000 in
set_option maxHeartbeats 2000000 in
theorem Ic {b C:Nat} {T0:Value} (hb:W.heap[b]? = some (.cells #[T0] 78 (0,0))) (hne:b≠Fd) (h:∀d,K ⟨#[v0,.int .i64 (n:Nat),v2,.pointer (some ⟨bM,0,none⟩),v4,.pointer (some ⟨bL,0,none⟩),v6,v7,v8,.pointer (some ⟨Fd,0,none⟩),.pointer (some ⟨b,0,none⟩),s,v12,v13,v14,v15,v16,v17,v18,v19,v20,v21,v22,v23,.chan (some C),q,v26,v27,v28,v29,v30,v31,v32,v33,v34,v35,v36,v37,v38,v39,v40,v41,v42,v43,v44,v45,v46,v47,v48,v49,v50,v51,v52],[]⟩ ((W.at d).setCell ⟨b,0,none⟩ (.chan (some C)))):OpC Tryz.prog AtRel (DN Fd) 11 eO7 4 K ⟨#[v0,.int .i64 (n:Nat),v2,.pointer (some ⟨bM,0,none⟩),v4,.pointer (some ⟨bL,0,none⟩),v6,v7,v8,.pointer (some ⟨Fd,0,none⟩),.pointer (some ⟨b,0,none⟩),s,v12,v13,v14,v15,v16,v17,v18,v19,v20,v21,v22,v23,.chan (some C),q,v26,v27,v28,v29,v30,v31,v32,v33,v34,v35,v36,v37,v38,v39,v40,v41,v42,v43,v44,v45,v46,v47,v48,v49,v50,v51,v52],[]⟩ W:=by
 simp only[eO7,eX4,eX2,eX1,dm,Tryz.f11,Option.getD_some]
 refine mQ rfl rfl (fun w₁ h₁ K' hK'=>?_)
 obtain ⟨d,rfl⟩:=h₁
 have hc:(W.at d).cell? ⟨b,0,none⟩=some T0:=by
  have h2:(W.at d).heap[b]? = some (.cells #[T0] 78 (0,0)):=hb
  rw[cell_of_row _ _ _ _ _ _ h2]
  rfl
 have hf:(W.at d).frozen? ⟨b,0,none⟩=false:=frozen_of_row (W.at d) b 0 #[T0] 78 hb
 have hbl:b<W.heap.size:=cA hb
 have hd:=h d
 go_simp
 refine hK' _ _ ⟨⟨mh (W:=W.at d) hb,fun e he=>?_⟩,hd⟩
 have hm:=mem_listed he
 simp[go_sem,hc,hf] at hm
 subst hm
 exact ⟨⟨fun x e=>(by cases e;exact Nat.lt_of_lt_of_le hbl (mh (W:=W.at d) hb)),fun m e=>by cases e⟩,fun x e ad e2=>(by cases e;cases e2;exact hne)⟩
set_option maxRecDepth 100000 in
set_option maxHeartbeats 2000000 in
theorem Kn {b C:Nat} {T0:Value} (hb:W.heap[b]? = some (.cells #[T0] 79 (0,0))) (hne:b≠Fd) (h:∀d,K ⟨#[v0,.int .i64 (n:Nat),v2,.pointer (some ⟨bM,0,none⟩),v4,.pointer (some ⟨bL,0,none⟩),v6,v7,v8,.pointer (some ⟨Fd,0,none⟩),r,.pointer (some ⟨b,0,none⟩),v12,v13,v14,v15,v16,v17,v18,v19,v20,v21,v22,v23,p,.chan (some C),v26,v27,v28,v29,v30,v31,v32,v33,v34,v35,v36,v37,v38,v39,v40,v41,v42,v43,v44,v45,v46,v47,v48,v49,v50,v51,v52],[]⟩ ((W.at d).setCell ⟨b,0,none⟩ (.chan (some C)))):OpC Tryz.prog AtRel (DN Fd) 11 eO7 5 K ⟨#[v0,.int .i64 (n:Nat),v2,.pointer (some ⟨bM,0,none⟩),v4,.pointer (some ⟨bL,0,none⟩),v6,v7,v8,.pointer (some ⟨Fd,0,none⟩),r,.pointer (some ⟨b,0,none⟩),v12,v13,v14,v15,v16,v17,v18,v19,v20,v21,v22,v23,p,.chan (some C),v26,v27,v28,v29,v30,v31,v32,v33,v34,v35,v36,v37,v38,v39,v40,v41,v42,v43,v44,v45,v46,v47,v48,v49,v50,v51,v52],[]⟩ W:=by
 simp only[eO7,eX4,eX2,eX1,dm,Tryz.f11,Option.getD_some]
 refine mQ rfl rfl (fun w₁ h₁ K' hK'=>?_)
 obtain ⟨d,rfl⟩:=h₁
 have hc:(W.at d).cell? ⟨b,0,none⟩=some T0:=by
  have h2:(W.at d).heap[b]? = some (.cells #[T0] 79 (0,0)):=hb
  rw[cell_of_row _ _ _ _ _ _ h2]
  rfl
 have hf:(W.at d).frozen? ⟨b,0,none⟩=false:=frozen_of_row (W.at d) b 0 #[T0] 79 hb
 have hbl:b<W.heap.size:=cA hb
 have hd:=h d
 go_simp
 refine hK' _ _ ⟨⟨mh (W:=W.at d) hb,fun e he=>?_⟩,hd⟩
 have hm:=mem_listed he
 simp[go_sem,hc,hf] at hm
 subst hm
 exact ⟨⟨fun x e=>(by cases e;exact Nat.lt_of_lt_of_le hbl (mh (W:=W.at d) hb)),fun m e=>by cases e⟩,fun x e ad e2=>(by cases e;cases e2;exact hne)⟩
end
def Q7 (H:Array Obj) (o:Os) (out:Array (Nat × ByteArray)) (n bM bL Fd:Nat) (e:Exit) (a:Act) (W:World):Prop:=e=.normal∧∃(C1 C2 bF bD:Nat) (v0 v2 v4 v6 v7 v8 v12 v13 v14 v15 v16 v17 v18 v19 v20 v21 v22 v23 v26 v27 v28 v29 v30 v31 v32 v33 v34 v35 v36 v37 v38 v39 v40 v41 v42 v43 v44 v45 v46 v47 v48 v49 v50 v51 v52:Value),a=⟨#[v0,.int .i64 (n:Nat),v2,.pointer (some ⟨bM,0,none⟩),v4,.pointer (some ⟨bL,0,none⟩),v6,v7,v8,.pointer (some ⟨Fd,0,none⟩),.pointer (some ⟨bF,0,none⟩),.pointer (some ⟨bD,0,none⟩),v12,v13,v14,v15,v16,v17,v18,v19,v20,v21,v22,v23,.chan (some C1),.chan (some C2),v26,v27,v28,v29,v30,v31,v32,v33,v34,v35,v36,v37,v38,v39,v40,v41,v42,v43,v44,v45,v46,v47,v48,v49,v50,v51,v52],[]⟩∧Z7 H o out W∧ZC H W C1∧ZC H W C2∧C1≠C2∧ZB H W bF 78 (.chan (some C1))∧ZB H W bD 79 (.chan (some C2))
theorem iA {W:World} {C:Nat} {x:Obj} (h:W.heap[C]? = some x):C≠W.heap.size:=fun e=>by have:=cA h;omega
section
variable {H:Array Obj} {o:Os} {out:Array (Nat × ByteArray)} {n bM bL Fd:Nat} {p q r s v0 v2 v4 v6 v7 v8 v12 v13 v14 v15 v16 v17 v18 v19 v20 v21 v22 v23 v26 v27 v28 v29 v30 v31 v32 v33 v34 v35 v36 v37 v38 v39 v40 v41 v42 v43 v44 v45 v46 v47 v48 v49 v50 v51 v52:Value} {W:World}
set_option maxRecDepth 100000 in
theorem yc (_hF:Fd<H.size) (hz:Z7 H o out W) {C1:Nat} (k0:ZC H W C1) {C2:Nat} (k1:ZC H W C2) (kn:C1≠C2) {bF:Nat} (k2:ZB H W bF 78 (.chan (some C1))) {bD:Nat} (k3:ZB H W bD 79 (.chan (some C2))):AnyCH Tryz.prog AtRel (DN Fd) 11 .any eO7 (Q7 H o out n bM bL Fd) (fun _=>True) 0 #[true,true,true,true,true,true] ⟨#[v0,.int .i64 (n:Nat),v2,.pointer (some ⟨bM,0,none⟩),v4,.pointer (some ⟨bL,0,none⟩),v6,v7,v8,.pointer (some ⟨Fd,0,none⟩),.pointer (some ⟨bF,0,none⟩),.pointer (some ⟨bD,0,none⟩),v12,v13,v14,v15,v16,v17,v18,v19,v20,v21,v22,v23,.chan (some C1),.chan (some C2),v26,v27,v28,v29,v30,v31,v32,v33,v34,v35,v36,v37,v38,v39,v40,v41,v42,v43,v44,v45,v46,v47,v48,v49,v50,v51,v52],[]⟩ W:=anyCH_done (by kernel_rfl) ⟨rfl,C1,C2,bF,bD,_,_,_,_,_,_,_,_,_,_,_,_,_,_,_,_,_,_,_,_,_,_,_,_,_,_,_,_,_,_,_,_,_,_,_,_,_,_,_,_,_,_,_,_,_,rfl,hz,k0,k1,kn,k2,k3⟩ 0
set_option maxRecDepth 100000 in
theorem sI (hF:Fd<H.size) (hz:Z7 H o out W) {C1:Nat} (k0:ZC H W C1) {C2:Nat} (k1:ZC H W C2) (kn:C1≠C2) {bF:Nat} (k2:ZB H W bF 78 (.chan (some C1))) {bD:Nat} (k3:ZB H W bD 79 (.chan none)):AnyCH Tryz.prog AtRel (DN Fd) 11 .any eO7 (Q7 H o out n bM bL Fd) (fun _=>True) 1 #[true,true,true,true,true,false] ⟨#[v0,.int .i64 (n:Nat),v2,.pointer (some ⟨bM,0,none⟩),v4,.pointer (some ⟨bL,0,none⟩),v6,v7,v8,.pointer (some ⟨Fd,0,none⟩),.pointer (some ⟨bF,0,none⟩),.pointer (some ⟨bD,0,none⟩),v12,v13,v14,v15,v16,v17,v18,v19,v20,v21,v22,v23,.chan (some C1),.chan (some C2),v26,v27,v28,v29,v30,v31,v32,v33,v34,v35,v36,v37,v38,v39,v40,v41,v42,v43,v44,v45,v46,v47,v48,v49,v50,v51,v52],[]⟩ W:=by
 refine anyCH_all (rs:=[5]) (by kernel_rfl) (by simp) (fun i hi=>?_)
 simp only[List.mem_cons,List.not_mem_nil,or_false] at hi
 subst hi
 ·exact Kn k3.2 (by have:=k3.1;omega) fun d=>⟨trivial,yc hF (Z7.set (hz.at' d) (W:=W.at d) k3 _) (ZC.set (W:=W.at d) k0 k3 _) (ZC.set (W:=W.at d) k1 k3 _) kn (ZB.setOther (W:=W.at d) k2 k3 (by decide) _) (ZB.set (W:=W.at d) k3 _)⟩
set_option maxRecDepth 100000 in
theorem mo (hF:Fd<H.size) (hz:Z7 H o out W) {C1:Nat} (k0:ZC H W C1) {C2:Nat} (k1:ZC H W C2) (kn:C1≠C2) {bF:Nat} (k2:ZB H W bF 78 (.chan none)) {bD:Nat} (k3:ZB H W bD 79 (.chan none)):AnyCH Tryz.prog AtRel (DN Fd) 11 .any eO7 (Q7 H o out n bM bL Fd) (fun _=>True) 2 #[true,true,true,true,false,false] ⟨#[v0,.int .i64 (n:Nat),v2,.pointer (some ⟨bM,0,none⟩),v4,.pointer (some ⟨bL,0,none⟩),v6,v7,v8,.pointer (some ⟨Fd,0,none⟩),.pointer (some ⟨bF,0,none⟩),.pointer (some ⟨bD,0,none⟩),v12,v13,v14,v15,v16,v17,v18,v19,v20,v21,v22,v23,.chan (some C1),.chan (some C2),v26,v27,v28,v29,v30,v31,v32,v33,v34,v35,v36,v37,v38,v39,v40,v41,v42,v43,v44,v45,v46,v47,v48,v49,v50,v51,v52],[]⟩ W:=by
 refine anyCH_all (rs:=[4]) (by kernel_rfl) (by simp) (fun i hi=>?_)
 simp only[List.mem_cons,List.not_mem_nil,or_false] at hi
 subst hi
 ·exact Ic k2.2 (by have:=k2.1;omega) fun d=>⟨trivial,sI hF (Z7.set (hz.at' d) (W:=W.at d) k2 _) (ZC.set (W:=W.at d) k0 k2 _) (ZC.set (W:=W.at d) k1 k2 _) kn (ZB.set (W:=W.at d) k2 _) (ZB.setOther (W:=W.at d) k3 k2 (by decide) _)⟩
set_option maxRecDepth 100000 in
theorem Cy (hF:Fd<H.size) (hz:Z7 H o out W) {C1:Nat} (k0:ZC H W C1) {bF:Nat} (k2:ZB H W bF 78 (.chan (some C1))) {bD:Nat} (k3:ZB H W bD 79 (.chan none)):AnyCH Tryz.prog AtRel (DN Fd) 11 .any eO7 (Q7 H o out n bM bL Fd) (fun _=>True) 2 #[true,false,true,true,true,false] ⟨#[v0,.int .i64 (n:Nat),v2,.pointer (some ⟨bM,0,none⟩),v4,.pointer (some ⟨bL,0,none⟩),v6,v7,v8,.pointer (some ⟨Fd,0,none⟩),.pointer (some ⟨bF,0,none⟩),.pointer (some ⟨bD,0,none⟩),v12,v13,v14,v15,v16,v17,v18,v19,v20,v21,v22,v23,.chan (some C1),q,v26,v27,v28,v29,v30,v31,v32,v33,v34,v35,v36,v37,v38,v39,v40,v41,v42,v43,v44,v45,v46,v47,v48,v49,v50,v51,v52],[]⟩ W:=by
 refine anyCH_all (rs:=[1]) (by kernel_rfl) (by simp) (fun i hi=>?_)
 simp only[List.mem_cons,List.not_mem_nil,or_false] at hi
 subst hi
 ·exact kT fun d=>⟨trivial,sI hF ((hz.at' d).alloc _) (ZC.alloc (W:=W.at d) k0 _) (ZC.new (hz.at' d)) (iA k0.2) (ZB.alloc (W:=W.at d) k2 _) (ZB.alloc (W:=W.at d) k3 _)⟩
set_option maxRecDepth 100000 in
theorem tG (hF:Fd<H.size) (hz:Z7 H o out W) {C1:Nat} (k0:ZC H W C1) {C2:Nat} (k1:ZC H W C2) (kn:C1≠C2) {bF:Nat} (k2:ZB H W bF 78 (.chan none)):AnyCH Tryz.prog AtRel (DN Fd) 11 .any eO7 (Q7 H o out n bM bL Fd) (fun _=>True) 3 #[true,true,true,false,false,false] ⟨#[v0,.int .i64 (n:Nat),v2,.pointer (some ⟨bM,0,none⟩),v4,.pointer (some ⟨bL,0,none⟩),v6,v7,v8,.pointer (some ⟨Fd,0,none⟩),.pointer (some ⟨bF,0,none⟩),s,v12,v13,v14,v15,v16,v17,v18,v19,v20,v21,v22,v23,.chan (some C1),.chan (some C2),v26,v27,v28,v29,v30,v31,v32,v33,v34,v35,v36,v37,v38,v39,v40,v41,v42,v43,v44,v45,v46,v47,v48,v49,v50,v51,v52],[]⟩ W:=by
 refine anyCH_all (rs:=[3]) (by kernel_rfl) (by simp) (fun i hi=>?_)
 simp only[List.mem_cons,List.not_mem_nil,or_false] at hi
 subst hi
 ·exact n9 fun d=>⟨trivial,mo hF ((hz.at' d).alloc _) (ZC.alloc (W:=W.at d) k0 _) (ZC.alloc (W:=W.at d) k1 _) kn (ZB.alloc (W:=W.at d) k2 _) (ZB.new (hz.at' d) _ _)⟩
set_option maxRecDepth 100000 in
theorem tO (hF:Fd<H.size) (hz:Z7 H o out W) {C1:Nat} (k0:ZC H W C1) {C2:Nat} (k1:ZC H W C2) (kn:C1≠C2) {bD:Nat} (k3:ZB H W bD 79 (.chan none)):AnyCH Tryz.prog AtRel (DN Fd) 11 .any eO7 (Q7 H o out n bM bL Fd) (fun _=>True) 3 #[true,true,false,true,false,false] ⟨#[v0,.int .i64 (n:Nat),v2,.pointer (some ⟨bM,0,none⟩),v4,.pointer (some ⟨bL,0,none⟩),v6,v7,v8,.pointer (some ⟨Fd,0,none⟩),r,.pointer (some ⟨bD,0,none⟩),v12,v13,v14,v15,v16,v17,v18,v19,v20,v21,v22,v23,.chan (some C1),.chan (some C2),v26,v27,v28,v29,v30,v31,v32,v33,v34,v35,v36,v37,v38,v39,v40,v41,v42,v43,v44,v45,v46,v47,v48,v49,v50,v51,v52],[]⟩ W:=by
 refine anyCH_all (rs:=[2]) (by kernel_rfl) (by simp) (fun i hi=>?_)
 simp only[List.mem_cons,List.not_mem_nil,or_false] at hi
 subst hi
 ·exact n8 fun d=>⟨trivial,mo hF ((hz.at' d).alloc _) (ZC.alloc (W:=W.at d) k0 _) (ZC.alloc (W:=W.at d) k1 _) kn (ZB.new (hz.at' d) _ _) (ZB.alloc (W:=W.at d) k3 _)⟩
set_option maxRecDepth 100000 in
theorem tf (hF:Fd<H.size) (hz:Z7 H o out W) {C1:Nat} (k0:ZC H W C1) {bF:Nat} (k2:ZB H W bF 78 (.chan none)) {bD:Nat} (k3:ZB H W bD 79 (.chan none)):AnyCH Tryz.prog AtRel (DN Fd) 11 .any eO7 (Q7 H o out n bM bL Fd) (fun _=>True) 3 #[true,false,true,true,false,false] ⟨#[v0,.int .i64 (n:Nat),v2,.pointer (some ⟨bM,0,none⟩),v4,.pointer (some ⟨bL,0,none⟩),v6,v7,v8,.pointer (some ⟨Fd,0,none⟩),.pointer (some ⟨bF,0,none⟩),.pointer (some ⟨bD,0,none⟩),v12,v13,v14,v15,v16,v17,v18,v19,v20,v21,v22,v23,.chan (some C1),q,v26,v27,v28,v29,v30,v31,v32,v33,v34,v35,v36,v37,v38,v39,v40,v41,v42,v43,v44,v45,v46,v47,v48,v49,v50,v51,v52],[]⟩ W:=by
 refine anyCH_all (rs:=[1,4]) (by kernel_rfl) (by simp) (fun i hi=>?_)
 simp only[List.mem_cons,List.not_mem_nil,or_false] at hi
 rcases hi with rfl | rfl
 ·exact kT fun d=>⟨trivial,mo hF ((hz.at' d).alloc _) (ZC.alloc (W:=W.at d) k0 _) (ZC.new (hz.at' d)) (iA k0.2) (ZB.alloc (W:=W.at d) k2 _) (ZB.alloc (W:=W.at d) k3 _)⟩
 ·exact Ic k2.2 (by have:=k2.1;omega) fun d=>⟨trivial,Cy hF (Z7.set (hz.at' d) (W:=W.at d) k2 _) (ZC.set (W:=W.at d) k0 k2 _) (ZB.set (W:=W.at d) k2 _) (ZB.setOther (W:=W.at d) k3 k2 (by decide) _)⟩
set_option maxRecDepth 100000 in
theorem tZ (hF:Fd<H.size) (hz:Z7 H o out W) {C2:Nat} (k1:ZC H W C2) {bF:Nat} (k2:ZB H W bF 78 (.chan none)) {bD:Nat} (k3:ZB H W bD 79 (.chan none)):AnyCH Tryz.prog AtRel (DN Fd) 11 .any eO7 (Q7 H o out n bM bL Fd) (fun _=>True) 3 #[false,true,true,true,false,false] ⟨#[v0,.int .i64 (n:Nat),v2,.pointer (some ⟨bM,0,none⟩),v4,.pointer (some ⟨bL,0,none⟩),v6,v7,v8,.pointer (some ⟨Fd,0,none⟩),.pointer (some ⟨bF,0,none⟩),.pointer (some ⟨bD,0,none⟩),v12,v13,v14,v15,v16,v17,v18,v19,v20,v21,v22,v23,p,.chan (some C2),v26,v27,v28,v29,v30,v31,v32,v33,v34,v35,v36,v37,v38,v39,v40,v41,v42,v43,v44,v45,v46,v47,v48,v49,v50,v51,v52],[]⟩ W:=by
 refine anyCH_all (rs:=[0]) (by kernel_rfl) (by simp) (fun i hi=>?_)
 simp only[List.mem_cons,List.not_mem_nil,or_false] at hi
 subst hi
 ·exact od fun d=>⟨trivial,mo hF ((hz.at' d).alloc _) (ZC.new (hz.at' d)) (ZC.alloc (W:=W.at d) k1 _) (fun e=>iA k1.2 e.symm) (ZB.alloc (W:=W.at d) k2 _) (ZB.alloc (W:=W.at d) k3 _)⟩
set_option maxRecDepth 100000 in
theorem CU (hF:Fd<H.size) (hz:Z7 H o out W) {C1:Nat} (k0:ZC H W C1) {C2:Nat} (k1:ZC H W C2) (kn:C1≠C2):AnyCH Tryz.prog AtRel (DN Fd) 11 .any eO7 (Q7 H o out n bM bL Fd) (fun _=>True) 4 #[true,true,false,false,false,false] ⟨#[v0,.int .i64 (n:Nat),v2,.pointer (some ⟨bM,0,none⟩),v4,.pointer (some ⟨bL,0,none⟩),v6,v7,v8,.pointer (some ⟨Fd,0,none⟩),r,s,v12,v13,v14,v15,v16,v17,v18,v19,v20,v21,v22,v23,.chan (some C1),.chan (some C2),v26,v27,v28,v29,v30,v31,v32,v33,v34,v35,v36,v37,v38,v39,v40,v41,v42,v43,v44,v45,v46,v47,v48,v49,v50,v51,v52],[]⟩ W:=by
 refine anyCH_all (rs:=[2,3]) (by kernel_rfl) (by simp) (fun i hi=>?_)
 simp only[List.mem_cons,List.not_mem_nil,or_false] at hi
 rcases hi with rfl | rfl
 ·exact n8 fun d=>⟨trivial,tG hF ((hz.at' d).alloc _) (ZC.alloc (W:=W.at d) k0 _) (ZC.alloc (W:=W.at d) k1 _) kn (ZB.new (hz.at' d) _ _)⟩
 ·exact n9 fun d=>⟨trivial,tO hF ((hz.at' d).alloc _) (ZC.alloc (W:=W.at d) k0 _) (ZC.alloc (W:=W.at d) k1 _) kn (ZB.new (hz.at' d) _ _)⟩
set_option maxRecDepth 100000 in
theorem D5 (hF:Fd<H.size) (hz:Z7 H o out W) {C1:Nat} (k0:ZC H W C1) {bF:Nat} (k2:ZB H W bF 78 (.chan none)):AnyCH Tryz.prog AtRel (DN Fd) 11 .any eO7 (Q7 H o out n bM bL Fd) (fun _=>True) 4 #[true,false,true,false,false,false] ⟨#[v0,.int .i64 (n:Nat),v2,.pointer (some ⟨bM,0,none⟩),v4,.pointer (some ⟨bL,0,none⟩),v6,v7,v8,.pointer (some ⟨Fd,0,none⟩),.pointer (some ⟨bF,0,none⟩),s,v12,v13,v14,v15,v16,v17,v18,v19,v20,v21,v22,v23,.chan (some C1),q,v26,v27,v28,v29,v30,v31,v32,v33,v34,v35,v36,v37,v38,v39,v40,v41,v42,v43,v44,v45,v46,v47,v48,v49,v50,v51,v52],[]⟩ W:=by
 refine anyCH_all (rs:=[1,3]) (by kernel_rfl) (by simp) (fun i hi=>?_)
 simp only[List.mem_cons,List.not_mem_nil,or_false] at hi
 rcases hi with rfl | rfl
 ·exact kT fun d=>⟨trivial,tG hF ((hz.at' d).alloc _) (ZC.alloc (W:=W.at d) k0 _) (ZC.new (hz.at' d)) (iA k0.2) (ZB.alloc (W:=W.at d) k2 _)⟩
 ·exact n9 fun d=>⟨trivial,tf hF ((hz.at' d).alloc _) (ZC.alloc (W:=W.at d) k0 _) (ZB.alloc (W:=W.at d) k2 _) (ZB.new (hz.at' d) _ _)⟩
set_option maxRecDepth 100000 in
theorem E0 (hF:Fd<H.size) (hz:Z7 H o out W) {C1:Nat} (k0:ZC H W C1) {bD:Nat} (k3:ZB H W bD 79 (.chan none)):AnyCH Tryz.prog AtRel (DN Fd) 11 .any eO7 (Q7 H o out n bM bL Fd) (fun _=>True) 4 #[true,false,false,true,false,false] ⟨#[v0,.int .i64 (n:Nat),v2,.pointer (some ⟨bM,0,none⟩),v4,.pointer (some ⟨bL,0,none⟩),v6,v7,v8,.pointer (some ⟨Fd,0,none⟩),r,.pointer (some ⟨bD,0,none⟩),v12,v13,v14,v15,v16,v17,v18,v19,v20,v21,v22,v23,.chan (some C1),q,v26,v27,v28,v29,v30,v31,v32,v33,v34,v35,v36,v37,v38,v39,v40,v41,v42,v43,v44,v45,v46,v47,v48,v49,v50,v51,v52],[]⟩ W:=by
 refine anyCH_all (rs:=[1,2]) (by kernel_rfl) (by simp) (fun i hi=>?_)
 simp only[List.mem_cons,List.not_mem_nil,or_false] at hi
 rcases hi with rfl | rfl
 ·exact kT fun d=>⟨trivial,tO hF ((hz.at' d).alloc _) (ZC.alloc (W:=W.at d) k0 _) (ZC.new (hz.at' d)) (iA k0.2) (ZB.alloc (W:=W.at d) k3 _)⟩
 ·exact n8 fun d=>⟨trivial,tf hF ((hz.at' d).alloc _) (ZC.alloc (W:=W.at d) k0 _) (ZB.new (hz.at' d) _ _) (ZB.alloc (W:=W.at d) k3 _)⟩
set_option maxRecDepth 100000 in
theorem Ep (hF:Fd<H.size) (hz:Z7 H o out W) {C2:Nat} (k1:ZC H W C2) {bF:Nat} (k2:ZB H W bF 78 (.chan none)):AnyCH Tryz.prog AtRel (DN Fd) 11 .any eO7 (Q7 H o out n bM bL Fd) (fun _=>True) 4 #[false,true,true,false,false,false] ⟨#[v0,.int .i64 (n:Nat),v2,.pointer (some ⟨bM,0,none⟩),v4,.pointer (some ⟨bL,0,none⟩),v6,v7,v8,.pointer (some ⟨Fd,0,none⟩),.pointer (some ⟨bF,0,none⟩),s,v12,v13,v14,v15,v16,v17,v18,v19,v20,v21,v22,v23,p,.chan (some C2),v26,v27,v28,v29,v30,v31,v32,v33,v34,v35,v36,v37,v38,v39,v40,v41,v42,v43,v44,v45,v46,v47,v48,v49,v50,v51,v52],[]⟩ W:=by
 refine anyCH_all (rs:=[0,3]) (by kernel_rfl) (by simp) (fun i hi=>?_)
 simp only[List.mem_cons,List.not_mem_nil,or_false] at hi
 rcases hi with rfl | rfl
 ·exact od fun d=>⟨trivial,tG hF ((hz.at' d).alloc _) (ZC.new (hz.at' d)) (ZC.alloc (W:=W.at d) k1 _) (fun e=>iA k1.2 e.symm) (ZB.alloc (W:=W.at d) k2 _)⟩
 ·exact n9 fun d=>⟨trivial,tZ hF ((hz.at' d).alloc _) (ZC.alloc (W:=W.at d) k1 _) (ZB.alloc (W:=W.at d) k2 _) (ZB.new (hz.at' d) _ _)⟩
set_option maxRecDepth 100000 in
theorem Ex (hF:Fd<H.size) (hz:Z7 H o out W) {C2:Nat} (k1:ZC H W C2) {bD:Nat} (k3:ZB H W bD 79 (.chan none)):AnyCH Tryz.prog AtRel (DN Fd) 11 .any eO7 (Q7 H o out n bM bL Fd) (fun _=>True) 4 #[false,true,false,true,false,false] ⟨#[v0,.int .i64 (n:Nat),v2,.pointer (some ⟨bM,0,none⟩),v4,.pointer (some ⟨bL,0,none⟩),v6,v7,v8,.pointer (some ⟨Fd,0,none⟩),r,.pointer (some ⟨bD,0,none⟩),v12,v13,v14,v15,v16,v17,v18,v19,v20,v21,v22,v23,p,.chan (some C2),v26,v27,v28,v29,v30,v31,v32,v33,v34,v35,v36,v37,v38,v39,v40,v41,v42,v43,v44,v45,v46,v47,v48,v49,v50,v51,v52],[]⟩ W:=by
 refine anyCH_all (rs:=[0,2]) (by kernel_rfl) (by simp) (fun i hi=>?_)
 simp only[List.mem_cons,List.not_mem_nil,or_false] at hi
 rcases hi with rfl | rfl
 ·exact od fun d=>⟨trivial,tO hF ((hz.at' d).alloc _) (ZC.new (hz.at' d)) (ZC.alloc (W:=W.at d) k1 _) (fun e=>iA k1.2 e.symm) (ZB.alloc (W:=W.at d) k3 _)⟩
 ·exact n8 fun d=>⟨trivial,tZ hF ((hz.at' d).alloc _) (ZC.alloc (W:=W.at d) k1 _) (ZB.new (hz.at' d) _ _) (ZB.alloc (W:=W.at d) k3 _)⟩
set_option maxRecDepth 100000 in
theorem EW (hF:Fd<H.size) (hz:Z7 H o out W) {bF:Nat} (k2:ZB H W bF 78 (.chan none)) {bD:Nat} (k3:ZB H W bD 79 (.chan none)):AnyCH Tryz.prog AtRel (DN Fd) 11 .any eO7 (Q7 H o out n bM bL Fd) (fun _=>True) 4 #[false,false,true,true,false,false] ⟨#[v0,.int .i64 (n:Nat),v2,.pointer (some ⟨bM,0,none⟩),v4,.pointer (some ⟨bL,0,none⟩),v6,v7,v8,.pointer (some ⟨Fd,0,none⟩),.pointer (some ⟨bF,0,none⟩),.pointer (some ⟨bD,0,none⟩),v12,v13,v14,v15,v16,v17,v18,v19,v20,v21,v22,v23,p,q,v26,v27,v28,v29,v30,v31,v32,v33,v34,v35,v36,v37,v38,v39,v40,v41,v42,v43,v44,v45,v46,v47,v48,v49,v50,v51,v52],[]⟩ W:=by
 refine anyCH_all (rs:=[0,1]) (by kernel_rfl) (by simp) (fun i hi=>?_)
 simp only[List.mem_cons,List.not_mem_nil,or_false] at hi
 rcases hi with rfl | rfl
 ·exact od fun d=>⟨trivial,tf hF ((hz.at' d).alloc _) (ZC.new (hz.at' d)) (ZB.alloc (W:=W.at d) k2 _) (ZB.alloc (W:=W.at d) k3 _)⟩
 ·exact kT fun d=>⟨trivial,tZ hF ((hz.at' d).alloc _) (ZC.new (hz.at' d)) (ZB.alloc (W:=W.at d) k2 _) (ZB.alloc (W:=W.at d) k3 _)⟩
set_option maxRecDepth 100000 in
theorem K4 (hF:Fd<H.size) (hz:Z7 H o out W) {C1:Nat} (k0:ZC H W C1):AnyCH Tryz.prog AtRel (DN Fd) 11 .any eO7 (Q7 H o out n bM bL Fd) (fun _=>True) 5 #[true,false,false,false,false,false] ⟨#[v0,.int .i64 (n:Nat),v2,.pointer (some ⟨bM,0,none⟩),v4,.pointer (some ⟨bL,0,none⟩),v6,v7,v8,.pointer (some ⟨Fd,0,none⟩),r,s,v12,v13,v14,v15,v16,v17,v18,v19,v20,v21,v22,v23,.chan (some C1),q,v26,v27,v28,v29,v30,v31,v32,v33,v34,v35,v36,v37,v38,v39,v40,v41,v42,v43,v44,v45,v46,v47,v48,v49,v50,v51,v52],[]⟩ W:=by
 refine anyCH_all (rs:=[1,2,3]) (by kernel_rfl) (by simp) (fun i hi=>?_)
 simp only[List.mem_cons,List.not_mem_nil,or_false] at hi
 rcases hi with rfl | rfl | rfl
 ·exact kT fun d=>⟨trivial,CU hF ((hz.at' d).alloc _) (ZC.alloc (W:=W.at d) k0 _) (ZC.new (hz.at' d)) (iA k0.2)⟩
 ·exact n8 fun d=>⟨trivial,D5 hF ((hz.at' d).alloc _) (ZC.alloc (W:=W.at d) k0 _) (ZB.new (hz.at' d) _ _)⟩
 ·exact n9 fun d=>⟨trivial,E0 hF ((hz.at' d).alloc _) (ZC.alloc (W:=W.at d) k0 _) (ZB.new (hz.at' d) _ _)⟩
set_option maxRecDepth 100000 in
theorem Kx (hF:Fd<H.size) (hz:Z7 H o out W) {C2:Nat} (k1:ZC H W C2):AnyCH Tryz.prog AtRel (DN Fd) 11 .any eO7 (Q7 H o out n bM bL Fd) (fun _=>True) 5 #[false,true,false,false,false,false] ⟨#[v0,.int .i64 (n:Nat),v2,.pointer (some ⟨bM,0,none⟩),v4,.pointer (some ⟨bL,0,none⟩),v6,v7,v8,.pointer (some ⟨Fd,0,none⟩),r,s,v12,v13,v14,v15,v16,v17,v18,v19,v20,v21,v22,v23,p,.chan (some C2),v26,v27,v28,v29,v30,v31,v32,v33,v34,v35,v36,v37,v38,v39,v40,v41,v42,v43,v44,v45,v46,v47,v48,v49,v50,v51,v52],[]⟩ W:=by
 refine anyCH_all (rs:=[0,2,3]) (by kernel_rfl) (by simp) (fun i hi=>?_)
 simp only[List.mem_cons,List.not_mem_nil,or_false] at hi
 rcases hi with rfl | rfl | rfl
 ·exact od fun d=>⟨trivial,CU hF ((hz.at' d).alloc _) (ZC.new (hz.at' d)) (ZC.alloc (W:=W.at d) k1 _) (fun e=>iA k1.2 e.symm)⟩
 ·exact n8 fun d=>⟨trivial,Ep hF ((hz.at' d).alloc _) (ZC.alloc (W:=W.at d) k1 _) (ZB.new (hz.at' d) _ _)⟩
 ·exact n9 fun d=>⟨trivial,Ex hF ((hz.at' d).alloc _) (ZC.alloc (W:=W.at d) k1 _) (ZB.new (hz.at' d) _ _)⟩
set_option maxRecDepth 100000 in
theorem Ld (hF:Fd<H.size) (hz:Z7 H o out W) {bF:Nat} (k2:ZB H W bF 78 (.chan none)):AnyCH Tryz.prog AtRel (DN Fd) 11 .any eO7 (Q7 H o out n bM bL Fd) (fun _=>True) 5 #[false,false,true,false,false,false] ⟨#[v0,.int .i64 (n:Nat),v2,.pointer (some ⟨bM,0,none⟩),v4,.pointer (some ⟨bL,0,none⟩),v6,v7,v8,.pointer (some ⟨Fd,0,none⟩),.pointer (some ⟨bF,0,none⟩),s,v12,v13,v14,v15,v16,v17,v18,v19,v20,v21,v22,v23,p,q,v26,v27,v28,v29,v30,v31,v32,v33,v34,v35,v36,v37,v38,v39,v40,v41,v42,v43,v44,v45,v46,v47,v48,v49,v50,v51,v52],[]⟩ W:=by
 refine anyCH_all (rs:=[0,1,3]) (by kernel_rfl) (by simp) (fun i hi=>?_)
 simp only[List.mem_cons,List.not_mem_nil,or_false] at hi
 rcases hi with rfl | rfl | rfl
 ·exact od fun d=>⟨trivial,D5 hF ((hz.at' d).alloc _) (ZC.new (hz.at' d)) (ZB.alloc (W:=W.at d) k2 _)⟩
 ·exact kT fun d=>⟨trivial,Ep hF ((hz.at' d).alloc _) (ZC.new (hz.at' d)) (ZB.alloc (W:=W.at d) k2 _)⟩
 ·exact n9 fun d=>⟨trivial,EW hF ((hz.at' d).alloc _) (ZB.alloc (W:=W.at d) k2 _) (ZB.new (hz.at' d) _ _)⟩
set_option maxRecDepth 100000 in
theorem KL (hF:Fd<H.size) (hz:Z7 H o out W) {bD:Nat} (k3:ZB H W bD 79 (.chan none)):AnyCH Tryz.prog AtRel (DN Fd) 11 .any eO7 (Q7 H o out n bM bL Fd) (fun _=>True) 5 #[false,false,false,true,false,false] ⟨#[v0,.int .i64 (n:Nat),v2,.pointer (some ⟨bM,0,none⟩),v4,.pointer (some ⟨bL,0,none⟩),v6,v7,v8,.pointer (some ⟨Fd,0,none⟩),r,.pointer (some ⟨bD,0,none⟩),v12,v13,v14,v15,v16,v17,v18,v19,v20,v21,v22,v23,p,q,v26,v27,v28,v29,v30,v31,v32,v33,v34,v35,v36,v37,v38,v39,v40,v41,v42,v43,v44,v45,v46,v47,v48,v49,v50,v51,v52],[]⟩ W:=by
 refine anyCH_all (rs:=[0,1,2]) (by kernel_rfl) (by simp) (fun i hi=>?_)
 simp only[List.mem_cons,List.not_mem_nil,or_false] at hi
 rcases hi with rfl | rfl | rfl
 ·exact od fun d=>⟨trivial,E0 hF ((hz.at' d).alloc _) (ZC.new (hz.at' d)) (ZB.alloc (W:=W.at d) k3 _)⟩
 ·exact kT fun d=>⟨trivial,Ex hF ((hz.at' d).alloc _) (ZC.new (hz.at' d)) (ZB.alloc (W:=W.at d) k3 _)⟩
 ·exact n8 fun d=>⟨trivial,EW hF ((hz.at' d).alloc _) (ZB.new (hz.at' d) _ _) (ZB.alloc (W:=W.at d) k3 _)⟩
set_option maxRecDepth 100000 in
theorem KB (hF:Fd<H.size) (hz:Z7 H o out W):AnyCH Tryz.prog AtRel (DN Fd) 11 .any eO7 (Q7 H o out n bM bL Fd) (fun _=>True) 6 #[false,false,false,false,false,false] ⟨#[v0,.int .i64 (n:Nat),v2,.pointer (some ⟨bM,0,none⟩),v4,.pointer (some ⟨bL,0,none⟩),v6,v7,v8,.pointer (some ⟨Fd,0,none⟩),r,s,v12,v13,v14,v15,v16,v17,v18,v19,v20,v21,v22,v23,p,q,v26,v27,v28,v29,v30,v31,v32,v33,v34,v35,v36,v37,v38,v39,v40,v41,v42,v43,v44,v45,v46,v47,v48,v49,v50,v51,v52],[]⟩ W:=by
 refine anyCH_all (rs:=[0,1,2,3]) (by kernel_rfl) (by simp) (fun i hi=>?_)
 simp only[List.mem_cons,List.not_mem_nil,or_false] at hi
 rcases hi with rfl | rfl | rfl | rfl
 ·exact od fun d=>⟨trivial,K4 hF ((hz.at' d).alloc _) (ZC.new (hz.at' d))⟩
 ·exact kT fun d=>⟨trivial,Kx hF ((hz.at' d).alloc _) (ZC.new (hz.at' d))⟩
 ·exact n8 fun d=>⟨trivial,Ld hF ((hz.at' d).alloc _) (ZB.new (hz.at' d) _ _)⟩
 ·exact n9 fun d=>⟨trivial,KL hF ((hz.at' d).alloc _) (ZB.new (hz.at' d) _ _)⟩
end
end Hb
end Go.Proofs.YtgacaecjinlhiaaGreatDoor
