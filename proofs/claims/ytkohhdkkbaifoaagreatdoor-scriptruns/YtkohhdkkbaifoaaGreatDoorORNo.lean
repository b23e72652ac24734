/-
  Contract of the document's Now (chapter 8).
-/
import Derived.Test.YtkohhdkkbaifoaaGreatDoorPz
import Derived.Test.YtkohhdkkbaifoaaGreatDoorORSt
namespace Go.Proofs.YtkohhdkkbaifoaaGreatDoor
open Go.RowKit PK

theorem o_zero_perm:(Tryz.prog.info? 27).map (fun i=>(i.zero,i.size))=some (some (.agg (ints 26 fun _=>0)),26):=by kernel_rfl
theorem o_info_perm:(Tryz.prog.info? 27).map (fun i=>(i.zero,i.size,i.bytes))=some (some (.agg (ints 26 fun _=>0)),26,208):=by kernel_rfl
def three (f g h:Nat→Int):Nat→Int:=fun i=>if i<26 then f i else if i<52 then g (i-26) else h (i-52)
section
variable {P:Program}
theorem run_build3 (w:World) (t e:TypeId) (hu:P.underlying t=some (.slice e)) (hz:(P.info? e).map (fun i=>(i.zero,i.size))=some (some (.agg (ints 26 fun _=>0)),26)) (f g h:Nat→Int) :
  (Instr.buildSlice t 3 #[(0,.agg (ints 26 f)),(1,.agg (ints 26 g)),(2,.agg (ints 26 h))]).run P w=.ok (.slice (some ⟨w.heap.size,0,none⟩) 3 3) (w.alloc (.cells (ints 78 (three f g h)) e)):=by
 obtain ⟨hz1,hz2⟩:=zero_of_info hz
 cases hq:P.info? e with
 | none=>simp[hq] at hz
 | some i =>
  have hs:i.size=26:=by simpa [hq] using hz2
  have hsz:∀W,(sizeOf e).run P W=.ok 26 W:=fun W=>by simp[sizeOf,typeInfo,hq,hs]
  have hlay:tab (3*26) (lay 26 (lay 26 (lay 26 (fun x=>(ints 26 fun _=>0)[x % 26]!) (0*26) f) (1*26) g) (2*26) h)=ints 78 (three f g h):=tab_ext fun i hi=>by
   unfold lay three
   by_cases e1:i<26
   ·rw[if_neg (by omega),if_neg (by omega),if_pos (by omega)];simp[e1]
   ·by_cases e2:i<52
    ·rw[if_neg (by omega),if_pos (by omega)];simp[e1,e2]
    ·rw[if_pos (by omega)];simp[e1,e2]
  have hfill:=fill_step 26 (3*26) (fun x=>(ints 26 fun _=>0)[x % 26]!) 0 f [(1,.agg (ints 26 g)),(2,.agg (ints 26 h))] (by omega)
  rw[fill_step 26 (3*26) _ 1 g [(2,.agg (ints 26 h))] (by omega),fill_step 26 (3*26) _ 2 h [] (by omega),hlay] at hfill
  have hfill':=hfill.trans (rfl:_=some (ints 78 (three f g h)))
  have h3:¬(3*26 > 2 ^ 24):=by omega
  have h4:¬(3*26=0):=by omega
  have hc:(Value.agg (ints 26 fun _=>0)).cells=ints 26 fun _=>0:=rfl
  simp only[Instr.buildSlice,Sem.run_bind,run_underlying hu,Result.andThen_ok,hsz,h3,h4,if_false,hz1,Sem.run_pure,hc,ints_size,range_tab,hfill']
  simp[newRow]
theorem wp_build3 {op:Oper} {a:Act} {w:World} {K:Act→World→Prop} {Q:Exit→Act→World→Prop} (t e:TypeId) (x y z:Operand) (ho:op.op=.buildSlice t 3 #[(0,x),(1,y),(2,z)])
  (f g k:Nat→Int) (hx:a.eval x=.agg (ints 26 f)) (hy:a.eval y=.agg (ints 26 g)) (hk:a.eval z=.agg (ints 26 k)) (hu:P.underlying t=some (.slice e)) (hz:(P.info? e).map (fun i=>(i.zero,i.size))=some (some (.agg (ints 26 fun _=>0)),26))
  (h:K (a.put op.dst (.slice (some ⟨w.heap.size,0,none⟩) 3 3)) (w.alloc (.cells (ints 78 (three f g k)) e))):op.wp P a w K Q:=by
 unfold Oper.wp execOp
 have hm:(#[(0,x),(1,y),(2,z)]:Array (Nat × Operand)).map (fun (i,x)=>(i,a.eval x))=#[(0,.agg (ints 26 f)),(1,.agg (ints 26 g)),(2,.agg (ints 26 k))]:=by simp[hx,hy,hk]
 simp only[ho,Sem.run_bind,hm,run_build3 w t e hu hz f g k,Result.andThen_ok]
 exact h
theorem wpList_build3 {ops:Array Oper} {rest:List Oper} {op:Oper} {a:Act} {w:World} {Q:Exit→Act→World→Prop} (hgd:op.guard=none) (t e:TypeId) (x y z:Operand) (ho:op.op=.buildSlice t 3 #[(0,x),(1,y),(2,z)])
  (f g k:Nat→Int) (hx:a.eval x=.agg (ints 26 f)) (hy:a.eval y=.agg (ints 26 g)) (hk:a.eval z=.agg (ints 26 k)) (hu:P.underlying t=some (.slice e)) (hz:(P.info? e).map (fun i=>(i.zero,i.size))=some (some (.agg (ints 26 fun _=>0)),26))
  (h:wpList P ops Q rest (a.put op.dst (.slice (some ⟨w.heap.size,0,none⟩) 3 3)) (w.alloc (.cells (ints 78 (three f g k)) e))):wpList P ops Q (op :: rest) a w :=
 wpList_plain hgd fun _ hK=>wp_build3 t e x y z ho f g k hx hy hk hu hz (hK _ _ h)
end
def seqP (M:Om.Ma) (at':Nat→Nat) (r:Nat):Nat→Nat :=
 if r=0 then M.pl else if (r-1) % 3=0 then fun c=>(c+Om.by' M at' (M.n-1-(r-1) / 3)) % 26 else if (r-1) % 3=1 then M.wi (M.n-1-(r-1) / 3) else fun c=>(c+26-Om.by' M at' (M.n-1-(r-1) / 3)) % 26
theorem seq_0 (M:Om.Ma) (at':Nat→Nat):seqP M at' 0=M.pl:=rfl
theorem seq_1 (M:Om.Ma) (at':Nat→Nat) (j:Nat):seqP M at' (1+3*j)=fun c=>(c+Om.by' M at' (M.n-1-j)) % 26:=by
 unfold seqP
 rw[if_neg (by omega),if_pos (by omega),show (1+3*j-1) / 3=j by omega]
theorem seq_2 (M:Om.Ma) (at':Nat→Nat) (j:Nat):seqP M at' (1+3*j+1)=M.wi (M.n-1-j):=by
 unfold seqP
 rw[if_neg (by omega),if_neg (by omega),if_pos (by omega),show (1+3*j+1-1) / 3=j by omega]
theorem seq_3 (M:Om.Ma) (at':Nat→Nat) (j:Nat):seqP M at' (1+3*j+2)=fun c=>(c+26-Om.by' M at' (M.n-1-j)) % 26:=by
 unfold seqP
 rw[if_neg (by omega),if_neg (by omega),if_neg (by omega),show (1+3*j+2-1) / 3=j by omega]
theorem seq_perm {M:Om.Ma} (hM:Om.Ok M) (at':Nat→Nat) (r:Nat):Pm.IsPerm (seqP M at' r):=by
 unfold seqP
 by_cases h0:r=0
 ·rw[if_pos h0];exact hM.pl
 ·rw[if_neg h0]
  by_cases h1:(r-1) % 3=0
  ·rw[if_pos h1];exact Om.turn_perm _
  ·rw[if_neg h1]
   by_cases h2:(r-1) % 3=1
   ·rw[if_pos h2];exact hM.wi _ (by have:=hM.pos;omega)
   ·rw[if_neg h2];exact Om.back_turn (Om.by_lt _ _ _)
theorem thr_seq (M:Om.Ma) (at':Nat→Nat) (c:Nat):∀j,thr (seqP M at') (1+3*j) c=Om.through M at' j (M.pl c)
 | 0=>rfl
 | j+1=>by
  show seqP M at' (1+3*j+2) (seqP M at' (1+3*j+1) (seqP M at' (1+3*j) (thr (seqP M at') (1+3*j) c)))=Om.wheel (M.wi (M.n-1-j)) (Om.by' M at' (M.n-1-j)) (Om.through M at' j (M.pl c))
  rw[thr_seq M at' c j,seq_1,seq_2,seq_3]
  rfl
theorem flat_three (P:Nat→Nat→Nat) (m:Nat):(ints (m*26) (flat P)).toList++(ints 78 (three (Pm.up (P m)) (Pm.up (P (m+1))) (Pm.up (P (m+2))))).toList=(ints ((m+3)*26) (flat P)).toList:=by
 apply List.ext_getElem?
 intro i
 have hx:∀n f,(ints n f).toList[i]? = (ints n f)[i]?:=fun n f=>Array.getElem?_toList
 have hl:(ints (m*26) (flat P)).toList.length=m*26:=by rw[Array.length_toList,ints_size]
 by_cases h1:i<m*26
 ·rw[List.getElem?_append_left (by omega),hx,hx,ints_get _ h1,ints_get _ (by omega)]
 ·rw[List.getElem?_append_right (by omega),hl,hx,Array.getElem?_toList]
  by_cases h2:i<(m+3)*26
  ·rw[ints_get _ (by omega),ints_get _ h2]
   congr 2
   unfold flat three Pm.up
   by_cases e1:i-m*26<26
   ·rw[if_pos e1,show i / 26=m by omega,show i % 26=i-m*26 by omega]
   ·rw[if_neg e1]
    by_cases e2:i-m*26<52
    ·rw[if_pos e2,show i / 26=m+1 by omega,show i % 26=i-m*26-26 by omega]
    ·rw[if_neg e2,show i / 26=m+2 by omega,show i % 26=i-m*26-52 by omega]
  ·rw[Array.getElem?_eq_none (by rw[ints_size];omega),Array.getElem?_eq_none (by rw[ints_size];omega)]
theorem flat_one (P:Nat→Nat→Nat):ints 26 (Pm.up (P 0))=ints (1*26) (flat P):=by
 show ints 26 _=ints 26 _
 refine ints_ext fun i hi=>?_
 unfold flat Pm.up
 rw[show i / 26=0 by omega,show i % 26=i by omega]
theorem own_perms {w:World} {B:Nat} {v:Value} {m:Nat} {P:Nat→Nat→Nat} (h:w.ownsRow B 27 26 v m (ints (m*26) (flat P)).toList) (hm:m≠0):PermsAt w v m P:=by
 rcases h.2 with ⟨_,h0⟩ | ⟨g,cap,cur,rfl,hB,hg,hnc,hcm,hcs,htake⟩
 ·exact absurd h0 hm
 ·refine ⟨g,0,cap,rfl,fun j v hv=>?_⟩
  rw[Nat.zero_add]
  refine RowAt.cell (w:=w) (b:=g) (T:=27) hg ?_
  have hj:j<m*26:=by
   have:=(List.getElem?_eq_some_iff.1 hv).1
   rw[Array.length_toList,ints_size] at this
   exact this
  rw[←htake,List.getElem?_take_of_lt hj] at hv
  simpa using hv
structure NoT (w W:World) (a b c:Value) (rf pl:Nat→Int):Prop where
 mg:MgAt w W a b c rf pl
 res:RowAt W (w.heap.size+1) 27 (ints 26 fun _=>0)
section
variable {w W W':World} {a b c:Value} {rf pl:Nat→Int}
theorem NoT.step (h:NoT w W a b c rf pl) (hb:Below W.heap.size W W'):NoT w W' a b c rf pl:=⟨h.mg.step hb,h.res.below hb h.res.lt⟩
theorem NoT.drew (h:NoT w W a b c rf pl):NoT w W.drew a b c rf pl:=⟨h.mg.drew,h.res⟩
theorem NoT.alloc (h:NoT w W a b c rf pl) (o:Obj):NoT w (W.alloc o) a b c rf pl:=h.step ((Below.refl _ _).alloc (Nat.le_refl _) o)
theorem NoT.grown {T:TypeId} {sz n:Nat} {v:Value} {l:List Value} (h:NoT w W a b c rf pl) (ho:W.ownsRow (w.heap.size+2) T sz v n l) (hg:W.grownBy W' v.ownBlock):NoT w W' a b c rf pl:=by
 have l1:=h.res.lt
 refine ⟨⟨(hg.block w.heap.size (by omega) (fun e=>by have:=(World.ownsRow.lt ho _ e.symm).1;omega)).trans h.mg.row,h.mg.below.grown hg (by omega) (fun q hq=>by have:=(World.ownsRow.lt ho q hq).1;omega)⟩,(hg.block (w.heap.size+1) l1 (fun e=>by have:=(World.ownsRow.lt ho _ e.symm).1;omega)).trans h.res⟩
end
structure NoS (w W:World) (a b c v:Value) (rf pl:Nat→Int) (m:Nat) (P:Nat→Nat→Nat):Prop where
 mg:MgAt w W a b c rf pl
 res:RowAt W (w.heap.size+1) 27 (ints 26 fun _=>0)
 own:W.ownsRow (w.heap.size+2) 27 26 v m (ints (m*26) (flat P)).toList
section
variable {w W W':World} {a b c v:Value} {rf pl:Nat→Int} {m:Nat} {P:Nat→Nat→Nat}
theorem NoS.step (h:NoS w W a b c v rf pl m P) (hb:Below W.heap.size W W'):NoS w W' a b c v rf pl m P:=⟨h.mg.step hb,h.res.below hb h.res.lt,own_step h.own hb⟩
theorem NoS.drew (h:NoS w W a b c v rf pl m P):NoS w W.drew a b c v rf pl m P:=⟨h.mg.drew,h.res,own_drew h.own⟩
theorem NoS.draws (h:NoS w W a b c v rf pl m P) (n:Nat):NoS w (W.drewN n) a b c v rf pl m P:=⟨⟨h.mg.row,h.mg.below.trans ⟨rfl,rfl,rfl,Nat.le_refl _,fun _ _=>rfl⟩⟩,h.res,h.own⟩
theorem NoS.alloc (h:NoS w W a b c v rf pl m P) (o:Obj):NoS w (W.alloc o) a b c v rf pl m P:=h.step ((Below.refl _ _).alloc (Nat.le_refl _) o)
end
theorem turn_ints {M:Om.Ma} {at':Nat→Nat} {i:Nat} (h1:at' i<26) (h2:M.ri i<26):(ints 26 fun c=>((c:Int)+(((at' i:Nat):Int)-((M.ri i:Nat):Int))) % 26)=ints 26 (Pm.up fun c=>(c+Om.by' M at' i) % 26):=ints_ext fun c hc=>by
 show ((c:Int)+(((at' i:Nat):Int)-((M.ri i:Nat):Int))) % 26=(((c+(at' i+26-M.ri i) % 26) % 26:Nat):Int)
 omega
theorem turn_back_ints {M:Om.Ma} {at':Nat→Nat} {i:Nat} (h1:at' i<26) (h2:M.ri i<26):(ints 26 fun c=>((c:Int)+(-(((at' i:Nat):Int)-((M.ri i:Nat):Int)))) % 26)=ints 26 (Pm.up fun c=>(c+26-Om.by' M at' i) % 26):=ints_ext fun c hc=>by
 show ((c:Int)+(-(((at' i:Nat):Int)-((M.ri i:Nat):Int)))) % 26=(((c+26-(at' i+26-M.ri i) % 26) % 26:Nat):Int)
 omega
theorem all_one78 {n:Nat} {f:Nat→Int} {u:Value} (h:u ∈ (ints n f).toList):u.oneCell'=true:=by
 have:=ints_one n f
 rw[Array.all_eq_true_iff_forall_mem] at this
 exact this u (by simpa using h)
def lastP (p q r:Nat→Nat) (k:Nat):Nat→Nat:=if k=0 then p else if k=1 then q else r
set_option maxRecDepth 100000 in
set_option maxHeartbeats 4000000 in
theorem rnow_any (M:Om.Ma) (hM:Om.Ok M) (vm va:Value) (at':Nat→Nat) (h26:Om.In26 M at') (w:World) (hm:MacAt w vm (gOf M)) (ha:NumsAt w va M.n fun i=>(at' i:Nat)):Calls Tryz.prog 144 #[vm,va] w fun e w'=>e=.returned (.agg (ints 26 (Pm.up (Om.now M at'))))∧Below w.heap.size w w':=by
 have hn4:=hM.most
 have hn1:=hM.pos
 obtain ⟨i0,hi0,hz0,hz1,hz2⟩:=x_info_parts o_info_perm
 obtain ⟨a,b,c,rfl,⟨ad,cap,R,rfl,hmx,hr,hn⟩,⟨ar,cr,rfl,_,hcr⟩,hst⟩:=hm
 obtain ⟨aa,ca,rfl,_,hca⟩:=ha
 obtain ⟨bw,ow,had,_⟩:=hr 0 hn1
 obtain ⟨ba,oa,haa,_⟩:=hca 0 hn1
 obtain ⟨br,or',har,_⟩:=hcr 0 hn1
 subst had haa har
 have HWI:=(show Hid (∀r,r<M.n→w.rangeAt bw (ow+r*27) (ints 26 (Pm.up (M.wi r))).toList) from fun r hr2=>by
  obtain ⟨b',o',e,h⟩:=hr r hr2
  cases e
  intro j v hv
  rw[Array.getElem?_toList] at hv
  obtain ⟨h1,rfl⟩:=at_ints hv
  exact h j _ (by rw[Array.getElem?_toList];exact whl_get _ _ h1))
 have HAT:=(show Hid (∀r,r<M.n→w.cell? ⟨ba,oa+r,none⟩=some (.int .i64 (at' r:Nat))) from fun r hr2=>by
  obtain ⟨b',o',e,h⟩:=hca r hr2
  cases e
  exact h)
 have HRI:=(show Hid (∀r,r<M.n→w.cell? ⟨br,or'+r,none⟩=some (.int .i64 (M.ri r:Nat))) from fun r hr2=>by
  obtain ⟨b',o',e,h⟩:=hcr r hr2
  cases e
  exact h)
 have H26:=(show Hid (∀i,i<M.n→at' i<26) from h26)
 have HR26:=(show Hid (∀i,i<M.n→M.ri i<26) from hM.ri)
 have HTP:=(show Hid (Pm.IsPerm (Om.there M at')) from Om.there_perm hM at')
 have HSP:=(show Hid (∀r,r<1+3*M.n→Pm.IsPerm (seqP M at' r)) from fun r _=>seq_perm hM at' r)
 have HRF:=(show Hid (Pm.IsPerm M.rf) from hM.rf)
 have HEND:Hid (thr (seqP M at') (1+3*M.n)=Om.there M at'):=funext fun c=>thr_seq M at' c M.n
 have h0:=MgAt.new w (.slice (some ⟨bw,ow,none⟩) M.n cap) (.slice (some ⟨br,or',none⟩) M.n cr) c (Pm.up M.rf) (Pm.up M.pl)
 have hz26:=o_zero v_zero_perm
 clear hr hn hca hcr hst hmx hM h26
 go_enter Tryz.func144,Tryz.ntmps144
 have hg1:=h0.alloc (.cells (ints 26 fun _=>0) 27)
 have hr1:=RowAt.new (w.alloc (.cells (mac (.slice (some ⟨bw,ow,none⟩) M.n cap) (.slice (some ⟨br,or',none⟩) M.n cr) c (Pm.up M.rf) (Pm.up M.pl)) 29)) 27 (ints 26 fun _=>0)
 rw[World.size_alloc] at hr1
 have hmid:=mid_pl hg1.row
 go_upto_region 2 with (first | refine wpList_load_arr rfl 27 _ rfl w.heap.size 29 rfl (ints 26 (Pm.up M.pl)) _ hmid Tryz.underlying27 rfl (by rw[ints_size];exact info_perm) ?_ | refine wpList_build1 rfl 200 27 _ rfl 26 (Pm.up M.pl) rfl (by decide) Tryz.underlying200 o_zero_perm (by decide) ?_)
 have hg2:NoS w (((w.alloc (.cells (mac (.slice (some ⟨bw,ow,none⟩) M.n cap) (.slice (some ⟨br,or',none⟩) M.n cr) c (Pm.up M.rf) (Pm.up M.pl)) 29)).alloc (.cells (ints 26 fun _=>0) 27)).alloc (.cells (ints 26 (Pm.up M.pl)) 27)) (.slice (some ⟨bw,ow,none⟩) M.n cap) (.slice (some ⟨br,or',none⟩) M.n cr) c (.slice (some ⟨w.heap.size+1+1,0,none⟩) 1 1) (Pm.up M.rf) (Pm.up M.pl) (1+3*0) (seqP M at'):=by
  refine ⟨hg1.alloc _,hr1.alloc _,?_⟩
  have hq:=RowAt.new ((w.alloc (.cells (mac (.slice (some ⟨bw,ow,none⟩) M.n cap) (.slice (some ⟨br,or',none⟩) M.n cr) c (Pm.up M.rf) (Pm.up M.pl)) 29)).alloc (.cells (ints 26 fun _=>0) 27)) 27 (ints 26 (Pm.up M.pl))
  rw[World.size_alloc,World.size_alloc] at hq
  refine ⟨by rw[Array.length_toList,ints_size],.inr ⟨w.heap.size+1+1,1,ints 26 (Pm.up M.pl),rfl,by omega,hq,by omega,by decide,by rw[ints_size],?_⟩⟩
  rw[List.take_of_length_le (by rw[Array.length_toList,ints_size];decide),←seq_0 M at',flat_one]
 clear hg1 hr1 hmid h0
 go_wp2_with fail
 go_loopw [6,5] (fun i o W=>∃(j:Nat) (v:Value),j≤M.n∧i=.int .i64 ((M.n:Int)-1-(j:Int))∧v=o∧NoS w W (.slice (some ⟨bw,ow,none⟩) M.n cap) (.slice (some ⟨br,or',none⟩) M.n cr) c v (Pm.up M.rf) (Pm.up M.pl) (1+3*j) (seqP M at')) (fun i _ _=>(intOf i+1).toNat)
 case atStart =>
  exact ⟨0,_,by omega,by go_num,rfl,hg2⟩
 case round =>
  clear hg2
  obtain ⟨j,v,hj,rfl,rfl,hg⟩:=hrel
  by_cases hlt:j<M.n
  ·obtain ⟨i,hi⟩:∃i:Nat,i=M.n-1-j:=⟨_,rfl⟩
   have hii:(M.n:Int)-1-(j:Int)=(i:Int):=by omega
   rw[hii]
   have HII:Hid ((M.n:Int)-1-(j:Int)=(i:Int)):=hii
   have HI:Hid (i=M.n-1-j):=hi
   have HLT:Hid (j<M.n):=hlt
   have hin:i<M.n:=by omega
   have hi0':(0:Int)≤(i:Int):=by omega
   have hc0:=HAT.out i hin
   have hc1:=HRI.out i hin
   have hck:=(hg.mg.below.cell (p:=⟨ba,oa+i,none⟩) (cell_block hc0)).trans hc0
   have hrk:=(hg.mg.below.cell (p:=⟨br,or'+i,none⟩) (cell_block hc1)).trans hc1
   have hr0:=hg.mg.c1
   have hak:=H26.out i hin
   have hrk2:=HR26.out i hin
   have HTU:=(show Hid (∀W,Calls Tryz.prog 182 #[.int .i64 (((at' i:Nat):Int)-((M.ri i:Nat):Int))] W fun e w'=>e=.returned (.agg (ints 26 (Pm.up (seqP M at' (1+3*j)))))∧Below W.heap.size W w') from fun W=>by
    have:=rturned_any (((at' i:Nat):Int)-((M.ri i:Nat):Int)) (by omega) (by omega) W
    rw[turn_ints hak hrk2] at this
    rw[seq_1,←HI.out]
    exact this)
   have HTB:=(show Hid (∀W,Calls Tryz.prog 182 #[.int .i64 (-(((at' i:Nat):Int)-((M.ri i:Nat):Int)))] W fun e w'=>e=.returned (.agg (ints 26 (Pm.up (seqP M at' (1+3*j+2)))))∧Below W.heap.size W w') from fun W=>by
    have:=rturned_any (-(((at' i:Nat):Int)-((M.ri i:Nat):Int))) (by omega) (by omega) W
    rw[turn_back_ints hak hrk2] at this
    rw[seq_3,←HI.out]
    exact this)
   have HWK:Hid (w.rangeAt bw (ow+i*27) (ints 26 (Pm.up (seqP M at' (1+3*j+1)))).toList):=by
    rw[Hid,seq_2,←HI.out]
    exact HWI.out i hin
   have hneg:IntKind.i64.wrap (-(((at' i:Nat):Int)-((M.ri i:Nat):Int)))=-(((at' i:Nat):Int)-((M.ri i:Nat):Int)):=IntWalk.i64_in _ (by omega)
   clear hi hii hc0 hc1
   go_upto_region 5 with fail
   go_quiet (fail)
   have hgV:=hg.draws nq
   generalize wr.drewN nq=V at *
   clear hck hrk hr0 hg
   go_upto_region 6 with fail
   refine wp_region_noPanic ?_
   refine wp_region_held_drew (S:=fun W=>NoT w W (.slice (some ⟨bw,ow,none⟩) M.n cap) (.slice (some ⟨br,or',none⟩) M.n cr) c (Pm.up M.rf) (Pm.up M.pl)) (by kernel_rfl) (NoT.drew ⟨hgV.mg,hgV.res⟩) (fun hS=>?_)
   have ho:=own_drew hgV.own
   refine vtk 0 31 (v) rfl (fun W hW=>by clear hS hW;go_simp) hS ?_
   simp only[zsA,zsB,zsC]
   refine vtk 1 32 (.int .i64 (((at' i:Nat):Int)-((M.ri i:Nat):Int))) rfl (fun W hW=>by clear hS hW;go_simp) hS ?_
   simp only[zsA,zsB,zsC]
   refine vtk 3 34 (.pointer (some ⟨w.heap.size,0,none⟩)) rfl (fun W hW=>by clear hS hW;go_simp) hS ?_
   simp only[zsA,zsB,zsC]
   refine vtk 4 35 (.slice (some ⟨bw,ow,none⟩) M.n cap) rfl (fun W hW=>by have u:=hW.mg.c0;clear hS hW;go_simp) hS ?_
   simp only[zsA,zsB,zsC]
   refine vtk 5 36 (.int .i64 (i:Nat)) rfl (fun W hW=>by clear hS hW;go_simp) hS ?_
   simp only[zsA,zsB,zsC]
   refine vtk 6 37 (.pointer (some ⟨bw,ow+i*27,none⟩)) rfl (fun W hW=>by clear hS hW;go_simp) hS ?_
   simp only[zsA,zsB,zsC]
   refine vtk 7 38 (.pointer (some ⟨bw,ow+i*27,none⟩)) rfl (fun W hW=>by clear hS hW;go_simp) hS ?_
   simp only[zsA,zsB,zsC]
   refine vtk 8 39 (.agg (ints 26 (Pm.up (seqP M at' (1+3*j+1))))) rfl (fun W hW=>by have u:=run_loadAt_mid (P:=Tryz.prog) W bw (ow+i*27) 27 (ints 26 (Pm.up (seqP M at' (1+3*j+1)))).toList _ (rangeAt_below HWK.out hW.mg.below) Tryz.underlying27 rfl (by rw[Array.length_toList,ints_size];exact info_perm);rw[Array.toArray_toList] at u;clear hS hW;simp[execOp,Act.eval,u]) hS ?_
   simp only[zsA,zsB,zsC]
   refine vtk 9 40 (.int .i64 (((at' i:Nat):Int)-((M.ri i:Nat):Int))) rfl (fun W hW=>by clear hS hW;go_simp) hS ?_
   simp only[zsA,zsB,zsC]
   refine vtk 10 41 (.int .i64 (-(((at' i:Nat):Int)-((M.ri i:Nat):Int)))) rfl (fun W hW=>by clear hS hW;go_simp) hS ?_
   simp only[zsA,zsB,zsC]
   refine rd1 2 rfl (fun K hK=>?_)
   go_simp
   refine Calls.mono (HTU.out _) ?_
   rintro e Y ⟨rfl,hb8⟩
   refine hK.out _ _ (hS.step hb8) (fun hS1=>?_)
   clear hK hS K
   have hS:=hS1
   clear hS1
   replace ho:=own_step ho hb8
   clear hb8
   refine rd1 11 rfl (fun K hK=>?_)
   go_simp
   refine Calls.mono (HTB.out _) ?_
   rintro e Y ⟨rfl,hb8⟩
   refine hK.out _ _ (hS.step hb8) (fun hS1=>?_)
   clear hK hS K
   have hS:=hS1
   clear hS1
   replace ho:=own_step ho hb8
   clear hb8
   refine rd1 12 rfl (fun K hK=>?_)
   refine wp_build3 200 27 _ _ _ rfl (Pm.up (seqP M at' (1+3*j))) (Pm.up (seqP M at' (1+3*j+1))) (Pm.up (seqP M at' (1+3*j+2))) rfl rfl rfl Tryz.underlying200 o_zero_perm ?_
   have hnw:=RowAt.new Y 27 (ints 78 (three (Pm.up (seqP M at' (1+3*j))) (Pm.up (seqP M at' (1+3*j+1))) (Pm.up (seqP M at' (1+3*j+2)))))
   refine hK.out _ _ (hS.alloc _) (fun hS1=>?_)
   replace ho:=World.ownsRow.alloc ho (.cells (ints 78 (three (Pm.up (seqP M at' (1+3*j))) (Pm.up (seqP M at' (1+3*j+1))) (Pm.up (seqP M at' (1+3*j+2))))) 27)
   clear hK hS K
   have hS:=hS1
   clear hS1
   obtain ⟨Z,hZ⟩:∃Z,Z=Y.alloc (.cells (ints 78 (three (Pm.up (seqP M at' (1+3*j))) (Pm.up (seqP M at' (1+3*j+1))) (Pm.up (seqP M at' (1+3*j+2))))) 27):=⟨_,rfl⟩
   rw[←hZ] at hS ho hnw ⊢
   clear hZ
   refine rd1 13 rfl (fun K hK=>?_)
   refine wp_append_own _ _ _ 200 rfl (w.heap.size+2) 27 i0 (.agg (ints 26 fun _=>0)) 26 208 Tryz.underlying200 hi0 hz0 hz1 hz2 (ints_size _ _) (by decide) v (1+3*j) _ rfl ho ⟨Y.heap.size,0,none⟩ 3 3 (ints 78 (three (Pm.up (seqP M at' (1+3*j))) (Pm.up (seqP M at' (1+3*j+1))) (Pm.up (seqP M at' (1+3*j+2))))).toList rfl (by rw[Array.length_toList,ints_size]) (fun q u hu=>by rw[Addr.add_mid,Nat.zero_add];exact hnw.cell (by rw[←Array.getElem?_toList];exact hu)) (fun u hu=>all_one78 hu) (by unfold maxLen;omega) (by omega) (by have:=hS.res.lt;omega) ?_
   intro v5 w5 hown5 hgrow5 _
   refine hK.out _ _ (hS.grown ho hgrow5) (fun hS1=>?_)
   clear hK hS K
   have hS:=hS1
   clear hS1
   simp only[List.getElem_toArray,List.getElem_cons_succ,List.getElem_cons_zero,Act.put,zsA,zsB,zsC]
   refine vtk 14 5 (v5) rfl (fun W hW=>by clear hS hW;go_simp) hS ?_
   simp only[zsA,zsB,zsC]
   refine wpAnyH_done (by kernel_rfl) ?_ _
   refine NoPanic.normal ?_
   rw[flat_three] at hown5
   go_wp2_with fail
   go_roundw
   case rel=>exact ⟨j+1,v5,HLT.out,by have:=HII.out;first | go_num | (congr 1;omega),rfl,⟨hS.mg,hS.res,hown5⟩⟩
   case measure=>have:=HII.out;simp[intOf] <;> omega
  ·have hjn:j=M.n:=by omega
   have hpm:=own_perms hg.own (by omega)
   rw[hjn] at hpm
   have hT:NoT w wr (.slice (some ⟨bw,ow,none⟩) M.n cap) (.slice (some ⟨br,or',none⟩) M.n cr) c (Pm.up M.rf) (Pm.up M.pl):=⟨hg.mg,hg.res⟩
   have HALL:=(show Hid (Calls Tryz.prog 183 #[v] wr fun e w'=>e=.returned (.agg (ints 26 (Pm.up (Om.there M at'))))∧Below wr.heap.size wr w') from by
    have:=rall_any v (1+3*M.n) (seqP M at') (by omega) HSP.out wr hpm
    rw[HEND.out] at this
    exact this)
   have hneg:(M.n:Int)-1-(j:Int)=-1:=by omega
   rw[hneg]
   clear hg hpm hneg hjn
   go_wp2_with fail
   refine (HALL.out).mono ?_
   rintro e W1 ⟨rfl,hb⟩
   have hT1:=hT.step hb
   have hl1:=hT1.res.lt
   clear hb HALL hT
   go_upto_region 8 with (first | refine wpList_store_row rfl 27 _ _ rfl W1.heap.size (ints 26 (Pm.up (Om.there M at'))) rfl rfl 27 _ (RowAt.new W1 _ _) (by rw[ints_size];exact info_perm) (by simp only[ints_size]) (ints_one _ _) ?_)
   have hT2:NoT w ((W1.alloc (.cells (ints 26 fun _=>0) 27)).setRow W1.heap.size (ints 26 (Pm.up (Om.there M at')))) (.slice (some ⟨bw,ow,none⟩) M.n cap) (.slice (some ⟨br,or',none⟩) M.n cr) c (Pm.up M.rf) (Pm.up M.pl):=⟨(hT1.mg.alloc _).setRow _ hT1.mg.lt _,(hT1.res.alloc _).rowOther _ _ (by omega)⟩
   have hp2:=(RowAt.new W1 27 (ints 26 fun _=>0)).row (ints 26 (Pm.up (Om.there M at')))
   generalize (W1.alloc (.cells (ints 26 fun _=>0) 27)).setRow W1.heap.size (ints 26 (Pm.up (Om.there M at')))=V1 at *
   obtain ⟨q1,hq1⟩:∃q1,q1=W1.heap.size:=⟨_,rfl⟩
   rw[←hq1] at hp2 hl1 ⊢
   clear hq1 hT1
   go_wp2_with (first | refine wpList_load_row rfl 27 _ rfl q1 rfl 27 (ints 26 (Pm.up (Om.there M at'))) (0,0) _ hp2 Tryz.underlying27 rfl (by rw[ints_size];exact info_perm) ?_)
   refine (rback_ok _ HTP.out _).mono ?_
   rintro e W2 ⟨rfl,hb⟩
   have hT3:=hT2.step hb
   have hp3:=hp2.below hb hp2.lt
   have hl2:=hp3.lt
   have hl3:=hT3.res.lt
   clear hb hT2 hp2
   go_upto_region 9 with (first | refine wpList_store_row rfl 27 _ _ rfl W2.heap.size (ints 26 (Pm.up (Pm.inv (Om.there M at')))) rfl rfl 27 _ (RowAt.new W2 _ _) (by rw[ints_size];exact info_perm) (by simp only[ints_size]) (ints_one _ _) ?_)
   have hT4:NoT w ((W2.alloc (.cells (ints 26 fun _=>0) 27)).setRow W2.heap.size (ints 26 (Pm.up (Pm.inv (Om.there M at'))))) (.slice (some ⟨bw,ow,none⟩) M.n cap) (.slice (some ⟨br,or',none⟩) M.n cr) c (Pm.up M.rf) (Pm.up M.pl):=⟨(hT3.mg.alloc _).setRow _ hT3.mg.lt _,(hT3.res.alloc _).rowOther _ _ (by omega)⟩
   have hp4:=(hp3.alloc (.cells (ints 26 fun _=>0) 27)).rowOther W2.heap.size (ints 26 (Pm.up (Pm.inv (Om.there M at')))) (by omega)
   have hp5:=(RowAt.new W2 27 (ints 26 fun _=>0)).row (ints 26 (Pm.up (Pm.inv (Om.there M at'))))
   generalize (W2.alloc (.cells (ints 26 fun _=>0) 27)).setRow W2.heap.size (ints 26 (Pm.up (Pm.inv (Om.there M at'))))=V2 at *
   obtain ⟨q2,hq2⟩:∃q2,q2=W2.heap.size:=⟨_,rfl⟩
   rw[←hq2] at hp5 ⊢
   clear hq2 hT3 hp3
   have hmid:=mid_rf hT4.mg.row
   go_wp2_with (first | refine wpList_load_row rfl 27 _ rfl q1 rfl 27 (ints 26 (Pm.up (Om.there M at'))) (0,0) _ hp4 Tryz.underlying27 rfl (by rw[ints_size];exact info_perm) ?_ | refine wpList_load_arr rfl 27 _ rfl w.heap.size 3 rfl (ints 26 (Pm.up M.rf)) _ hmid Tryz.underlying27 rfl (by rw[ints_size];exact info_perm) ?_ | refine wpList_load_row rfl 27 _ rfl q2 rfl 27 (ints 26 (Pm.up (Pm.inv (Om.there M at')))) (0,0) _ hp5 Tryz.underlying27 rfl (by rw[ints_size];exact info_perm) ?_ | refine wpList_build3 rfl 200 27 _ _ _ rfl (Pm.up (Om.there M at')) (Pm.up M.rf) (Pm.up (Pm.inv (Om.there M at'))) rfl rfl rfl Tryz.underlying200 o_zero_perm ?_)
   have hT5:=hT4.alloc (.cells (ints 78 (three (Pm.up (Om.there M at')) (Pm.up M.rf) (Pm.up (Pm.inv (Om.there M at'))))) 27)
   have hrow:=RowAt.new V2 27 (ints 78 (three (Pm.up (Om.there M at')) (Pm.up M.rf) (Pm.up (Pm.inv (Om.there M at')))))
   have HNOW:=(show Hid (∀W:World,RowAt W V2.heap.size 27 (ints 78 (three (Pm.up (Om.there M at')) (Pm.up M.rf) (Pm.up (Pm.inv (Om.there M at')))))→Calls Tryz.prog 183 #[.slice (some ⟨V2.heap.size,0,none⟩) 3 3] W fun e w'=>e=.returned (.agg (ints 26 (Pm.up (Om.now M at'))))∧Below W.heap.size W w') from fun W hW=>by
    have e3:ints 78 (three (Pm.up (Om.there M at')) (Pm.up M.rf) (Pm.up (Pm.inv (Om.there M at'))))=ints (3*26) (flat (lastP (Om.there M at') M.rf (Pm.inv (Om.there M at')))):=ints_ext fun i hi=>by
     unfold three flat lastP Pm.up
     by_cases e1:i<26
     ·rw[if_pos e1,if_pos (show i / 26=0 by omega),show i % 26=i by omega]
     ·rw[if_neg e1,if_neg (show ¬i / 26=0 by omega)]
      by_cases e2:i<52
      ·rw[if_pos e2,if_pos (show i / 26=1 by omega),show i % 26=i-26 by omega]
      ·rw[if_neg e2,if_neg (show ¬i / 26=1 by omega),show i % 26=i-52 by omega]
    rw[e3] at hW
    exact rall_any _ 3 (lastP (Om.there M at') M.rf (Pm.inv (Om.there M at'))) (by decide) (fun r hr=>by
     unfold lastP
     by_cases r0:r=0
     ·rw[if_pos r0];exact HTP.out
     ·rw[if_neg r0]
      by_cases r1:r=1
      ·rw[if_pos r1];exact HRF.out
      ·rw[if_neg r1];exact HTP.out.inv) W ⟨V2.heap.size,0,3,rfl,hW.range⟩)
   refine (HNOW.out _ hrow).mono ?_
   rintro e W3 ⟨rfl,hb⟩
   have hT6:=hT5.step hb
   have hr:=hT6.res
   have hbe:=hT6.mg.below
   clear hb HNOW hT5 hT4 hrow hT6 hp4 hp5 hmid
   obtain ⟨F,hF⟩:∃F,F=Pm.up (Om.now M at'):=⟨_,rfl⟩
   rw[←hF]
   have HF:Hid (F=Pm.up (Om.now M at')):=hF
   clear hF
   go_wp2_with (first | refine wpList_store_row rfl 27 _ _ rfl (w.heap.size+1) (ints 26 F) rfl rfl 27 _ hr (by rw[ints_size];exact info_perm) (by simp only[ints_size]) (ints_one _ _) ?_)
   exact bodyPost_ret (v:=.agg (ints 26 F)) (o_results1 Tryz.results144 _ _ _ _ _ _ _ rfl (hr.row _) Tryz.underlying27 rfl (by rw[ints_size];exact info_perm)) rfl ⟨by rw[HF.out],Below.setRow hbe _ (by omega) _⟩
end Go.Proofs.YtkohhdkkbaifoaaGreatDoor
