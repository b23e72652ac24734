import Derived.Test.YtpdemelchhkfaaaDzC
import Derived.Test.YtpdemelchhkfaaaJn20
namespace Go.Proofs.Ytpdemelchhkfaaa
namespace Cs
open Go.Conc PK
theorem Ar {P:Program} {q:Nat} {A:Array Value} {ty:TypeId} {fr:Nat × Nat}:∀(n i:Nat) (acc:Array Value) (w:World) (es:Array Event),w.heap[q]? = some (.cells A ty fr)→i+n≤A.size→∀ev ∈ (loadCellsFrom ⟨q,0,none⟩ i n acc).events P w es,ev ∈ es∨∃j,ev=⟨.cell ⟨q,j,none⟩,false,false⟩
 | 0,_,_,_,_,_,_=>fun ev h=>.inl (by simpa [loadCellsFrom] using h)
 | n+1,i,acc,w,es,hg,hl=>fun ev h=>by
  have hadd:(⟨q,0,none⟩:Addr).add i=⟨q,i,none⟩:=by unfold Addr.add;split <;> simp_all
  have hc:w.cell? ⟨q,i,none⟩=some A[i]:=by simp[World.cell?,hg,show i<A.size by omega]
  simp only[loadCellsFrom,Sem.events_bind,hadd] at h
  have hr:(load (⟨q,i,none⟩:Addr)).run P w=.ok A[i] w:=by simp[hc]
  rw[hr] at h
  rcases Ar n (i+1) (acc.push A[i]) w _ hg (by omega) ev h with h | h
  ·rw[events_load,hc] at h
   rcases Array.mem_push.1 h with h | rfl
   ·exact .inl h
   ·exact .inr ⟨_,rfl⟩
  ·exact .inr h
theorem AD {P:Program} (g o:Nat) (t:TypeId):∀(vs:List Value) (i:Nat) (cur:Array Value) (w:World) (es:Array Event),w.heap[g]? = some (.cells cur t (0,0))→o+i+vs.length≤cur.size→(∀v ∈ vs,v.oneCell'=true) →
  ∀ev ∈ (storeCells ⟨g,o,none⟩ vs i).events P w es,ev ∈ es∨∃j,o≤j∧ev=⟨.cell ⟨g,j,none⟩,true,false⟩
 | [],_,_,_,_,_,_,_=>fun ev h=>.inl (by simpa [storeCells] using h)
 | v :: rest,i,cur,w,es,hg,hl,h1=>fun ev h=>by
  have hi:o+i<cur.size:=by simp at hl;omega
  have hadd:(⟨g,o,none⟩:Addr).add i=⟨g,o+i,none⟩:=by unfold Addr.add;split <;> simp_all
  have hcell:w.cell? ⟨g,o+i,none⟩=some cur[o+i]:=by simp[World.cell?,hg,hi]
  have hfro:w.frozen? ⟨g,o+i,none⟩=false:=by simp[World.frozen?,hg]
  have hst:(store ((⟨g,o,none⟩:Addr).add i) v).run P w=.ok () (w.setRow g (cur.setIfInBounds (o+i) v)):=by
   rw[hadd,_root_.Go.run_store P w _ v _ (h1 v (by simp)),hcell]
   simp[hfro,_root_.Go.setCell_eq_setRow w g (o+i) cur t (0,0) v hg]
  have hev:(store ((⟨g,o,none⟩:Addr).add i) v).events P w es=es.push ⟨.cell ⟨g,o+i,none⟩,true,false⟩:=by
   rw[hadd,_root_.Go.events_store P w es _ v _ (h1 v (by simp)),hcell]
   simp only[hfro,Bool.false_eq_true,if_false]
   rfl
  simp only[storeCells,Sem.events_bind,hst,Result.evThen_ok,hev] at h
  rcases AD g o t rest (i+1) (cur.setIfInBounds (o+i) v) (w.setRow g (cur.setIfInBounds (o+i) v)) _ (setRow_heap w g cur _ t _ hg) (by simp at hl ⊢;omega) (fun x hx=>h1 x (by simp[hx])) ev h with h | h
  ·rcases Array.mem_push.1 h with h | rfl
   ·exact .inl h
   ·exact .inr ⟨_,by omega,rfl⟩
  ·exact .inr h
section
variable {K:Nat→Nat→Int} {Z:Nat→Int} {c:Cst} {tW tX:TypeId} {k q:Nat} {b0:Bd} {w:World}
def OwW (K:Nat→Nat→Int) (Z:Nat→Int) (c:Cst) (tW tX:TypeId) (k q:Nat) (b0:Bd) (w:World):Prop:=Ok3 c tW w∧BxR (fun k=>ints 28 (ek K Z k)) tX k q w∧bdC c w (eBd b0)
theorem OwW.rely {w₁:World} (h:OwW K Z c tW tX k q b0 w) (r:RB c tW tX (fun k=>ints 28 (ek K Z k)) k q w w₁):OwW K Z c tW tX k q b0 w₁:=bM h r
theorem OwW.tw (hK:c.K=30) (h:OwW K Z c tW tX k q b0 w):TW3 c.Fd q (Z k) b0.sc b0.tr (k:Nat) w:=by
 obtain ⟨_,hb,hd⟩:=h
 refine ⟨?_,?_,hd 28 (by omega) (by omega),hd 29 (by omega) (by omega)⟩
 ·rw[cell_of_row _ _ _ _ _ _ hb,aI _ (by omega)];rfl
 ·rw[cell_of_row _ _ _ _ _ _ hb,aI _ (by omega)];rfl
theorem ru {es:Array Event} (h:∀e ∈ es,EvT c.Fd q e):DB c q w w es :=
 ⟨fun _ _=>rfl,rfl,fun cs e=>⟨cs,e,rfl,rfl,rfl⟩,rfl,rfl,fun e he=>by
  rcases h e he with ⟨a,rfl,ha⟩ | ⟨o,ho,rfl⟩
  ·exact .inl ⟨a,rfl,.inr ha⟩
  ·exact .inr (.inl ⟨o,false,ho,rfl⟩)⟩
section
variable {fd:Nat} {S bs bt kt:Int} {g e l9:Bool} {md:Region.Mode} {l:Array Bool} {T:Array Value} {ds:List Deferred} {b:Frame} {rest:List Nat} {kk:List Item} {cs:List Frame}
theorem BF (hb:b.kind≠.early) (hg:g=decide (bs<S)) (he:e=decide (S=bs)) (hl:l9=decide (kt<bt)) (h:TlI (tV fd q S bs bt kt g e l9) fd q l T) (hw:TW3 fd q S bs bt kt w) {i:Nat} (hr:i ∈ Region.ready md tO l) :
  ∃es,stepG Try.prog false (G (b.at ⟨T,ds⟩ (.inRegion tO (i :: rest) :: kk)) cs) w=.go (G (b.at ⟨T.setIfInBounds (i+11) (tV fd q S bs bt kt g e l9 i),ds⟩ (.inRegion tO rest :: kk)) cs) w es∧∀e ∈ es,EvT fd q e:=by
 have hi:i<28:=by
  obtain ⟨_,o,ho,_⟩:=mem_ready.1 hr
  have:=(Array.getElem?_eq_some_iff.1 ho).1
  rw[jC] at this
  exact this
 obtain rfl | rfl | rfl | rfl | rfl | rfl | rfl | rfl | rfl | rfl | rfl | rfl | rfl | rfl | rfl | rfl | rfl | rfl | rfl | rfl | rfl | rfl | rfl | rfl | rfl | rfl | rfl | rfl:i=0∨i=1∨i=2∨i=3∨i=4∨i=5∨i=6∨i=7∨i=8∨i=9∨i=10∨i=11∨i=12∨i=13∨i=14∨i=15∨i=16∨i=17∨i=18∨i=19∨i=20∨i=21∨i=22∨i=23∨i=24∨i=25∨i=26∨i=27:=by omega
 ·exact zN hb hg he hl h hw hr
 ·exact zI hb hg he hl h hw hr
 ·exact Ad hb hg he hl h hw hr
 ·exact yV hb hg he hl h hw hr
 ·exact zR hb hg he hl h hw hr
 ·exact Ap hb hg he hl h hw hr
 ·exact zT hb hg he hl h hw hr
 ·exact y6 hb hg he hl h hw hr
 ·exact zS hb hg he hl h hw hr
 ·exact zh hb hg he hl h hw hr
 ·exact wT hb hg he hl h hw hr
 ·exact wP hb hg he hl h hw hr
 ·exact wW hb hg he hl h hw hr
 ·exact yL hb hg he hl h hw hr
 ·exact xm hb hg he hl h hw hr
 ·exact wI hb hg he hl h hw hr
 ·exact xY hb hg he hl h hw hr
 ·exact wh hb hg he hl h hw hr
 ·exact yC hb hg he hl h hw hr
 ·exact xw hb hg he hl h hw hr
 ·exact yD hb hg he hl h hw hr
 ·exact wj hb hg he hl h hw hr
 ·exact xk hb hg he hl h hw hr
 ·exact xS hb hg he hl h hw hr
 ·exact wz hb hg he hl h hw hr
 ·exact wE hb hg he hl h hw hr
 ·exact xd hb hg he hl h hw hr
 ·exact xK hb hg he hl h hw hr
theorem DF (hs:l.size=28) (h:l.toList.count false=0) {j:Nat} (hj:j<28):l.getD j false=true:=by
 have hlt:j<l.size:=by omega
 cases e:l[j] with
 | true=>simp[Array.getD_eq_getD_getElem?,hlt,e]
 | false =>
  have:false ∈ l.toList:=by rw[←e];simp
  exact absurd h (by have:=List.count_pos_iff.2 this;omega)
theorem Df {r:List Nat} (h:qI md tO l r):l.size=28→r.length≤l.toList.count false:=by
 induction h with
 | nil _=>intro _;simp
 | @cons l i r hr hs t ih =>
  intro hs'
  have h1:=ih (by simp[hs'])
  rw[Array.toList_setIfInBounds] at h1
  have hlt':i<l.toList.length:=by simpa using hs
  rw[List.count_set hlt'] at h1
  have e1:l.toList[i]=false:=by
   have:=(mem_ready.1 hr).1
   rw[Array.getD_eq_getD_getElem?] at this
   simp[hs] at this
   simpa using this
  have h2:0<l.toList.count false:=List.count_pos_iff.2 (by rw[←e1];exact List.getElem_mem hlt')
  simp only[e1,beq_self_eq_true,↓reduceIte,show (true==false)=false from rfl,Bool.false_eq_true] at h1
  rw[List.length_cons]
  omega
def tG (Z:Nat→Int) (b0:Bd) (k:Nat):Bool:=decide (b0.sc<Z k) || (decide (Z k=b0.sc) && decide (((k:Nat):Int)<b0.tr))
theorem CO {A:Goroutine→World→Prop} {n:Nat} (hK:c.K=30) (hb:b.kind≠.early)
  (hN:∀T,T.size=43→T[0]? = some (.pointer (some ⟨c.Fd,0,none⟩))→T[3]? = some (.pointer (some ⟨q,0,none⟩))→T[38]? = some (.bool (tG Z b0 k))→∀w,OwW K Z c tW tX k q b0 w→Goes Try.prog false (RB c tW tX (fun k=>ints 28 (ek K Z k)) k q) (DB c q) A n (G (b.at ⟨T,ds⟩ (.inRegion tO [] :: kk)) cs) w)
  {r:List Nat} (ho:qI md tO l r):∀{T:Array Value},TlI (tV c.Fd q (Z k) b0.sc b0.tr (k:Nat) (decide (b0.sc<Z k)) (decide (Z k=b0.sc)) (decide (((k:Nat):Int)<b0.tr))) c.Fd q l T→∀w,OwW K Z c tW tX k q b0 w→Goes Try.prog false (RB c tW tX (fun k=>ints 28 (ek K Z k)) k q) (DB c q) A (r.length+n) (G (b.at ⟨T,ds⟩ (.inRegion tO r :: kk)) cs) w:=by
 induction ho with
 | nil h =>
  intro T hI w hw
  rw[List.length_nil,Nat.zero_add]
  exact hN T hI.size hI.t0 hI.t3 (hI.done 27 (by omega) (DF hI.ls h (by omega))) w hw
 | @cons l i r hr hs t ih =>
  intro T hI w hw
  rw[List.length_cons,Nat.add_right_comm]
  have hi:i<28:=by have:=hI.ls;omega
  refine Goes.step rfl fun w₁ h₁=>?_
  have hw1:=hw.rely h₁
  obtain ⟨es,hst,hes⟩:=BF (ds:=ds) (rest:=r) (kk:=kk) (cs:=cs) hb rfl rfl rfl hI (hw1.tw hK) hr
  rw[hst,goes_go]
  exact ⟨ru hes,ih (hI.put hi rfl) w₁ hw1⟩
theorem Bn {A:Goroutine→World→Prop} {n:Nat} (hK:c.K=30) (hb:b.kind≠.early)
  (hN:∀T,T.size=43→T[0]? = some (.pointer (some ⟨c.Fd,0,none⟩))→T[3]? = some (.pointer (some ⟨q,0,none⟩))→T[38]? = some (.bool (tG Z b0 k))→∀w,OwW K Z c tW tX k q b0 w→Goes Try.prog false (RB c tW tX (fun k=>ints 28 (ek K Z k)) k q) (DB c q) A n (G (b.at ⟨T,ds⟩ (.inRegion tO [] :: kk)) cs) w)
  {T:Array Value} (hT:T.size=43) (t0:T[0]? = some (.pointer (some ⟨c.Fd,0,none⟩))) (t3:T[3]? = some (.pointer (some ⟨q,0,none⟩))) {id:Nat}:∀w,OwW K Z c tW tX k q b0 w→Goes Try.prog false (RB c tW tX (fun k=>ints 28 (ek K Z k)) k q) (DB c q) A (n+29) (G (b.at ⟨T,ds⟩ (.code (.region id tO true) :: kk)) cs) w:=by
 intro w hw
 refine Goes.step rfl fun w₁ h₁=>?_
 have hw1:=hw.rely h₁
 rw[stepG_region_draw,goes_go]
 refine ⟨⟨fun _ _=>rfl,rfl,fun cs e=>⟨cs,e,rfl,rfl,rfl⟩,rfl,rfl,fun e he=>by simp at he⟩,?_⟩
 obtain ⟨md,ho⟩:=nq (mixed:=Try.prog.follows .mixedOrders) BM (w₁.tape w₁.drawn (.order b.fn id))
 have h28:=Df ho (by simp[jC])
 have hc:(Array.replicate tO.size false).toList.count false=28:=by simp[jC]
 rw[hc] at h28
 have hw2:OwW K Z c tW tX k q b0 { w₁ with drawn:=w₁.drawn+1 }:=⟨⟨⟨hw1.1.ok.fix,hw1.1.ok.fd,hw1.1.ok.big,hw1.1.ok.os,hw1.1.ok.out⟩,hw1.1.wg,hw1.1.mu⟩,hw1.2.1,hw1.2.2⟩
 refine (CO hK hb hN ho ⟨hT,by simp[jC],t0,t3,fun d hd h=>?_⟩ _ hw2).mono (by omega)
 simp[Array.getD_eq_getD_getElem?,jC,hd] at h
end
end
end Cs
namespace Cs
open Go.Conc Go.RowKit Go.Conc.Lib Go.ConcR.Gen Go.ConcN.Gen
open Go.ConcR (KK WgAt wgBlock stA smA rd wr mk DC0)
open Go.ConcM (OsLater goes_pad)
noncomputable def dD:Code:=match bh with | .block _ (.seq _ c)=>c | _=>.skip
noncomputable def k22:Code:=match dD with | .seq _ (.seq _ (.seq _ (.seq _ (.seq _ c))))=>c | _=>.skip
noncomputable def vI:Array Oper:=match k22 with | .seq (.region _ o _) _=>o | _=>#[]
noncomputable def jK:Code:=match k22 with | .seq _ c=>c | _=>.skip
section
variable (c:Cst) (b₁:Frame) (a₁:Act) (ops₁:Array Oper) (i₁:Nat) (rest₁:List Nat) (k₁:List Item) (cs₁:List Frame)
def kMd (o:Wd) (a s:Bool) (it:Nat) (g:Goroutine):Prop:=kY o a s it∧∃(ws:Int) (v:Nat→Value),g=G ((base 89).at ⟨#[.pointer (some ⟨c.Fd,0,none⟩),v 1,.int .i64 ws,.bool s,.bool a,.int .i64 (it:Nat),.int .i32 o.enc,v 7,v 8,v 9,v 10,v 11,v 12,v 13,v 14,v 15,v 16,v 17,v 18,v 19,v 20,v 21,v 22,v 23,v 24,v 25,v 26,v 27,v 28,v 29,v 30,v 31,v 32,v 33,v 34,v 35,v 36,v 37,v 38,v 39,v 40,v 41,v 42,v 43,v 44,v 45,v 46,v 47,v 48,v 49,v 50,v 51,v 52,v 53,v 54,v 55,v 56,v 57,v 58,v 59,v 60,v 61,v 62,v 63,v 64,v 65,v 66,v 67,v 68,v 69,v 70,v 71,v 72,v 73,v 74,v 75,v 76,v 77,v 78,v 79,v 80,v 81,v 82,v 83,v 84,v 85,v 86,v 87,v 88,v 89,v 90,v 91,v 92,v 93,v 94,v 95,v 96,v 97,v 98,v 99,v 100,v 101,v 102,v 103,v 104,v 105,v 106,v 107,v 108,v 109,v 110,v 111,v 112,v 113,v 114,v 115,v 116,v 117,v 118,v 119,v 120,v 121,v 122,v 123,v 124,v 125,v 126,v 127,v 128,v 129,v 130,v 131,v 132,v 133,v 134,v 135,v 136,v 137,v 138],[]⟩ [.code dD,.inBlock 1,.inLoop bh,.inBlock 0,.code cy]) (b₁.at a₁ (.inRegion ops₁ (i₁ :: rest₁) :: k₁) :: cs₁)
def kC2 (o:Wd) (a s:Bool) (it:Nat) (g:Goroutine):Prop:=kY o a s it∧∃(ws:Int) (v:Nat→Value),g=G ((base 89).at ⟨#[.pointer (some ⟨c.Fd,0,none⟩),v 1,.int .i64 ws,.bool s,.bool a,.int .i64 (it:Nat),.int .i32 o.enc,.int .i32 (o.next a s).enc,v 8,v 9,v 10,v 11,v 12,v 13,v 14,v 15,v 16,v 17,v 18,v 19,v 20,v 21,v 22,v 23,v 24,v 25,v 26,v 27,v 28,v 29,v 30,v 31,v 32,v 33,v 34,v 35,v 36,v 37,v 38,v 39,v 40,v 41,v 42,v 43,v 44,v 45,v 46,v 47,v 48,v 49,v 50,v 51,v 52,v 53,v 54,v 55,v 56,v 57,v 58,v 59,v 60,v 61,v 62,v 63,v 64,v 65,v 66,v 67,v 68,v 69,v 70,v 71,v 72,v 73,v 74,v 75,v 76,.pointer (some ⟨c.Fd,0,none⟩),.int .i32 o.enc,.int .i32 (o.next a s).enc,v 80,v 81,v 82,v 83,v 84,v 85,v 86,v 87,v 88,v 89,v 90,v 91,v 92,v 93,v 94,v 95,v 96,v 97,v 98,v 99,v 100,v 101,v 102,v 103,v 104,v 105,v 106,v 107,v 108,v 109,v 110,v 111,v 112,v 113,v 114,v 115,v 116,v 117,v 118,v 119,v 120,v 121,v 122,v 123,v 124,v 125,v 126,v 127,v 128,v 129,v 130,v 131,v 132,v 133,v 134,v 135,v 136,v 137,v 138],[]⟩ [.inRegion vI [5],.code jK,.inBlock 1,.inLoop bh,.inBlock 0,.code cy]) (b₁.at a₁ (.inRegion ops₁ (i₁ :: rest₁) :: k₁) :: cs₁)
end
section
variable {c:Cst} {tW:TypeId} {b₁:Frame} {a₁:Act} {ops₁:Array Oper} {i₁:Nat} {rest₁:List Nat} {k₁:List Item} {cs₁:List Frame}
set_option maxRecDepth 100000 in
theorem l8 {o:Wd} {a s:Bool} {it:Nat} (ho:kY o a s it) {ws:Int} (l:Array Value) (hl:l.size=139) (h0:l[0]? = some (.pointer (some ⟨c.Fd,0,none⟩))) (h2:l[2]? = some (.int .i64 ws)) (h3:l[3]? = some (.bool s)) (h4:l[4]? = some (.bool a)) (h5:l[5]? = some (.int .i64 (it:Nat))) (h6:l[6]? = some (.int .i32 o.enc)) :
  kMd c b₁ a₁ ops₁ i₁ rest₁ k₁ cs₁ o a s it (G ((base 89).at ⟨l,[]⟩ [.code dD,.inBlock 1,.inLoop bh,.inBlock 0,.code cy]) (b₁.at a₁ (.inRegion ops₁ (i₁ :: rest₁) :: k₁) :: cs₁)):=by
 have e:=bU l 139 hl
 generalize hv:(fun i=>l.getD i undef)=v at e
 have fv:∀i x,l[i]? = some x→v i=x:=fun i x hx=>by rw[←hv];simp[Array.getD_eq_getD_getElem?,hx]
 refine ⟨ho,ws,v,?_⟩
 have q:l=#[v 0,v 1,v 2,v 3,v 4,v 5,v 6,v 7,v 8,v 9,v 10,v 11,v 12,v 13,v 14,v 15,v 16,v 17,v 18,v 19,v 20,v 21,v 22,v 23,v 24,v 25,v 26,v 27,v 28,v 29,v 30,v 31,v 32,v 33,v 34,v 35,v 36,v 37,v 38,v 39,v 40,v 41,v 42,v 43,v 44,v 45,v 46,v 47,v 48,v 49,v 50,v 51,v 52,v 53,v 54,v 55,v 56,v 57,v 58,v 59,v 60,v 61,v 62,v 63,v 64,v 65,v 66,v 67,v 68,v 69,v 70,v 71,v 72,v 73,v 74,v 75,v 76,v 77,v 78,v 79,v 80,v 81,v 82,v 83,v 84,v 85,v 86,v 87,v 88,v 89,v 90,v 91,v 92,v 93,v 94,v 95,v 96,v 97,v 98,v 99,v 100,v 101,v 102,v 103,v 104,v 105,v 106,v 107,v 108,v 109,v 110,v 111,v 112,v 113,v 114,v 115,v 116,v 117,v 118,v 119,v 120,v 121,v 122,v 123,v 124,v 125,v 126,v 127,v 128,v 129,v 130,v 131,v 132,v 133,v 134,v 135,v 136,v 137,v 138]:=e.trans rfl
 rw[fv 0 _ h0,fv 2 _ h2,fv 3 _ h3,fv 4 _ h4,fv 5 _ h5,fv 6 _ h6] at q
 rw[q]
set_option maxRecDepth 100000 in
theorem gP {o:Wd} {a s:Bool} {it:Nat} (ho:kY o a s it) {ws:Int} (l:Array Value) (hl:l.size=139) (h0:l[0]? = some (.pointer (some ⟨c.Fd,0,none⟩))) (h2:l[2]? = some (.int .i64 ws)) (h3:l[3]? = some (.bool s)) (h4:l[4]? = some (.bool a)) (h5:l[5]? = some (.int .i64 (it:Nat))) (h6:l[6]? = some (.int .i32 o.enc)) (h7:l[7]? = some (.int .i32 (o.next a s).enc)) (h77:l[77]? = some (.pointer (some ⟨c.Fd,0,none⟩))) (h78:l[78]? = some (.int .i32 o.enc)) (h79:l[79]? = some (.int .i32 (o.next a s).enc)) :
  kC2 c b₁ a₁ ops₁ i₁ rest₁ k₁ cs₁ o a s it (G ((base 89).at ⟨l,[]⟩ [.inRegion vI [5],.code jK,.inBlock 1,.inLoop bh,.inBlock 0,.code cy]) (b₁.at a₁ (.inRegion ops₁ (i₁ :: rest₁) :: k₁) :: cs₁)):=by
 have e:=bU l 139 hl
 generalize hv:(fun i=>l.getD i undef)=v at e
 have fv:∀i x,l[i]? = some x→v i=x:=fun i x hx=>by rw[←hv];simp[Array.getD_eq_getD_getElem?,hx]
 refine ⟨ho,ws,v,?_⟩
 have q:l=#[v 0,v 1,v 2,v 3,v 4,v 5,v 6,v 7,v 8,v 9,v 10,v 11,v 12,v 13,v 14,v 15,v 16,v 17,v 18,v 19,v 20,v 21,v 22,v 23,v 24,v 25,v 26,v 27,v 28,v 29,v 30,v 31,v 32,v 33,v 34,v 35,v 36,v 37,v 38,v 39,v 40,v 41,v 42,v 43,v 44,v 45,v 46,v 47,v 48,v 49,v 50,v 51,v 52,v 53,v 54,v 55,v 56,v 57,v 58,v 59,v 60,v 61,v 62,v 63,v 64,v 65,v 66,v 67,v 68,v 69,v 70,v 71,v 72,v 73,v 74,v 75,v 76,v 77,v 78,v 79,v 80,v 81,v 82,v 83,v 84,v 85,v 86,v 87,v 88,v 89,v 90,v 91,v 92,v 93,v 94,v 95,v 96,v 97,v 98,v 99,v 100,v 101,v 102,v 103,v 104,v 105,v 106,v 107,v 108,v 109,v 110,v 111,v 112,v 113,v 114,v 115,v 116,v 117,v 118,v 119,v 120,v 121,v 122,v 123,v 124,v 125,v 126,v 127,v 128,v 129,v 130,v 131,v 132,v 133,v 134,v 135,v 136,v 137,v 138]:=e.trans rfl
 rw[fv 0 _ h0,fv 2 _ h2,fv 3 _ h3,fv 4 _ h4,fv 5 _ h5,fv 6 _ h6,fv 7 _ h7,fv 77 _ h77,fv 78 _ h78,fv 79 _ h79] at q
 rw[q]
set_option maxRecDepth 100000 in
set_option maxHeartbeats 8000000 in
theorem Da {o:Wd} {it:Nat} (hl:o.l=0) (hs:o.s=0) {g:Goroutine} (hg:kMd c b₁ a₁ ops₁ i₁ rest₁ k₁ cs₁ o false false it g) :
  ∀w,Ok3 c tW w→Goes Try.prog false (fun _ w=>Ok3 c tW w) DC0 (fun g _=>g.status=.running∧kC2 c b₁ a₁ ops₁ i₁ rest₁ k₁ cs₁ o false false it g) 80 g w:=by
 obtain ⟨ho,ws,v,rfl⟩:=hg
 have h1:=ho.1
 have hq:o.q≤12001:=by have:=ho.2.1;omega
 have hq0:=ho.2.1
 have h4:bits .and .i32 o.enc 4=0:=by have:=lf h1 hq;rw[hs] at this;exact this
 have h5:bits .and .i32 o.enc 5=0:=by have:=iQ h1 hq;rw[hl,hs] at this;exact this
 have hl1:bits .and .i32 o.enc 1=0:=by have:=nk h1 hq;rw[hl] at this;exact this
 have f1:bits .or .i32 o.enc 1=({ o with l:=1 }:Wd).enc:=or1 h1 hq
 have ok1:({ o with l:=1 }:Wd).ok:=⟨Nat.le_refl 1,h1.2.1,h1.2.2⟩
 generalize hW1:({ o with l:=1 }:Wd)=W1 at f1 ok1
 have q1:W1.q=o.q:=by rw[←hW1]
 obtain ⟨W2,hW2⟩:∃W2,W1=W2:=⟨_,rfl⟩
 have ok2:W2.ok:=hW2 ▸ ok1
 have q2:W2.q≤12001:=by rw[←hW2];omega
 obtain ⟨W3,hW3⟩:∃W3,W2=W3:=⟨_,rfl⟩
 have ok3:W3.ok:=hW3 ▸ ok2
 have q3:W3.q≤12001:=by rw[←hW3];exact q2
 obtain ⟨W4,hW4⟩:∃W4,W3=W4:=⟨_,rfl⟩
 have hN:W4=o.next false false:=by rw[←hW4,←hW3,←hW2,←hW1];simp[Wd.next,hl,hs]
 intro w hF
 subst hW2
 subst hW3
 subst hW4
 simp only[dD,bh,Try.f89,Option.getD_some]
 repeat w_go aa
 refine Goes.stop (fun w₁ h₁=>⟨rfl,?_⟩)
 exact gP ho _ rfl rfl rfl rfl rfl rfl rfl (hN ▸ rfl) rfl rfl (hN ▸ rfl)
set_option maxRecDepth 100000 in
set_option maxHeartbeats 8000000 in
theorem CX {o:Wd} {it:Nat} (hl:o.l=0) (hs:o.s=0) {g:Goroutine} (hg:kMd c b₁ a₁ ops₁ i₁ rest₁ k₁ cs₁ o true false it g) :
  ∀w,Ok3 c tW w→Goes Try.prog false (fun _ w=>Ok3 c tW w) DC0 (fun g _=>g.status=.running∧kC2 c b₁ a₁ ops₁ i₁ rest₁ k₁ cs₁ o true false it g) 80 g w:=by
 obtain ⟨ho,ws,v,rfl⟩:=hg
 have h1:=ho.1
 have hq:o.q≤12001:=by have:=ho.2.1;omega
 have hq0:=ho.2.1
 have h4:bits .and .i32 o.enc 4=0:=by have:=lf h1 hq;rw[hs] at this;exact this
 have h5:bits .and .i32 o.enc 5=0:=by have:=iQ h1 hq;rw[hl,hs] at this;exact this
 have hl1:bits .and .i32 o.enc 1=0:=by have:=nk h1 hq;rw[hl] at this;exact this
 have f1:bits .or .i32 o.enc 1=({ o with l:=1 }:Wd).enc:=or1 h1 hq
 have ok1:({ o with l:=1 }:Wd).ok:=⟨Nat.le_refl 1,h1.2.1,h1.2.2⟩
 generalize hW1:({ o with l:=1 }:Wd)=W1 at f1 ok1
 have q1:W1.q=o.q:=by rw[←hW1]
 obtain ⟨W2,hW2⟩:∃W2,W1=W2:=⟨_,rfl⟩
 have ok2:W2.ok:=hW2 ▸ ok1
 have q2:W2.q≤12001:=by rw[←hW2];omega
 obtain ⟨W3,hW3⟩:∃W3,W2=W3:=⟨_,rfl⟩
 have ok3:W3.ok:=hW3 ▸ ok2
 have q3:W3.q≤12001:=by rw[←hW3];exact q2
 have w3:W3.w=1:=by rw[←hW3,←hW2,←hW1];exact (ho.2.2.1 rfl).1
 have f4:bits .and .i32 W3.enc 2=2:=by have:=xR ok3 q3;rw[w3] at this;exact this
 have f5:bits .andNot .i32 W3.enc 2=({ W3 with w:=0 }:Wd).enc:=zF ok3 q3 w3
 generalize hW4:({ W3 with w:=0 }:Wd)=W4 at f5
 have hN:W4=o.next true false:=by rw[←hW4,←hW3,←hW2,←hW1];simp[Wd.next,hl,hs]
 intro w hF
 subst hW2
 subst hW3
 simp only[dD,bh,Try.f89,Option.getD_some]
 repeat w_go aa
 refine Goes.stop (fun w₁ h₁=>⟨rfl,?_⟩)
 exact gP ho _ rfl rfl rfl rfl rfl rfl rfl (hN ▸ rfl) rfl rfl (hN ▸ rfl)
set_option maxRecDepth 100000 in
set_option maxHeartbeats 8000000 in
theorem Dy {o:Wd} {it:Nat} (hl:o.l=0) (hs:o.s=0) {g:Goroutine} (hg:kMd c b₁ a₁ ops₁ i₁ rest₁ k₁ cs₁ o true true it g) :
  ∀w,Ok3 c tW w→Goes Try.prog false (fun _ w=>Ok3 c tW w) DC0 (fun g _=>g.status=.running∧kC2 c b₁ a₁ ops₁ i₁ rest₁ k₁ cs₁ o true true it g) 80 g w:=by
 obtain ⟨ho,ws,v,rfl⟩:=hg
 have h1:=ho.1
 have hq:o.q≤12001:=by have:=ho.2.1;omega
 have hq0:=ho.2.1
 have h4:bits .and .i32 o.enc 4=0:=by have:=lf h1 hq;rw[hs] at this;exact this
 have h5:bits .and .i32 o.enc 5=0:=by have:=iQ h1 hq;rw[hl,hs] at this;exact this
 have hl1:bits .and .i32 o.enc 1=0:=by have:=nk h1 hq;rw[hl] at this;exact this
 have f1:bits .or .i32 o.enc 1=({ o with l:=1 }:Wd).enc:=or1 h1 hq
 have ok1:({ o with l:=1 }:Wd).ok:=⟨Nat.le_refl 1,h1.2.1,h1.2.2⟩
 generalize hW1:({ o with l:=1 }:Wd)=W1 at f1 ok1
 have q1:W1.q=o.q:=by rw[←hW1]
 obtain ⟨W2,hW2⟩:∃W2,W1=W2:=⟨_,rfl⟩
 have ok2:W2.ok:=hW2 ▸ ok1
 have q2:W2.q≤12001:=by rw[←hW2];omega
 obtain ⟨W3,hW3⟩:∃W3,W2=W3:=⟨_,rfl⟩
 have ok3:W3.ok:=hW3 ▸ ok2
 have q3:W3.q≤12001:=by rw[←hW3];exact q2
 have w3:W3.w=1:=by rw[←hW3,←hW2,←hW1];exact (ho.2.2.1 rfl).1
 have f4:bits .and .i32 W3.enc 2=2:=by have:=xR ok3 q3;rw[w3] at this;exact this
 have f5:bits .andNot .i32 W3.enc 2=({ W3 with w:=0 }:Wd).enc:=zF ok3 q3 w3
 generalize hW4:({ W3 with w:=0 }:Wd)=W4 at f5
 have hN:W4=o.next true true:=by rw[←hW4,←hW3,←hW2,←hW1];simp[Wd.next,hl,hs]
 intro w hF
 subst hW2
 subst hW3
 simp only[dD,bh,Try.f89,Option.getD_some]
 repeat w_go aa
 refine Goes.stop (fun w₁ h₁=>⟨rfl,?_⟩)
 exact gP ho _ rfl rfl rfl rfl rfl rfl rfl (hN ▸ rfl) rfl rfl (hN ▸ rfl)
set_option maxRecDepth 100000 in
set_option maxHeartbeats 8000000 in
theorem C0 {o:Wd} {it:Nat} (hl:o.l=1) (hs:o.s=0) {g:Goroutine} (hg:kMd c b₁ a₁ ops₁ i₁ rest₁ k₁ cs₁ o false false it g) :
  ∀w,Ok3 c tW w→Goes Try.prog false (fun _ w=>Ok3 c tW w) DC0 (fun g _=>g.status=.running∧kC2 c b₁ a₁ ops₁ i₁ rest₁ k₁ cs₁ o false false it g) 80 g w:=by
 obtain ⟨ho,ws,v,rfl⟩:=hg
 have h1:=ho.1
 have hq:o.q≤12001:=by have:=ho.2.1;omega
 have hq0:=ho.2.1
 have h4:bits .and .i32 o.enc 4=0:=by have:=lf h1 hq;rw[hs] at this;exact this
 have h5:bits .and .i32 o.enc 5=1:=by have:=iQ h1 hq;rw[hl,hs] at this;exact this
 have hl1:bits .and .i32 o.enc 1=1:=by have:=nk h1 hq;rw[hl] at this;exact this
 have f1:bits .or .i32 o.enc 1=({ o with l:=1 }:Wd).enc:=or1 h1 hq
 have ok1:({ o with l:=1 }:Wd).ok:=⟨Nat.le_refl 1,h1.2.1,h1.2.2⟩
 generalize hW1:({ o with l:=1 }:Wd)=W1 at f1 ok1
 have q1:W1.q=o.q:=by rw[←hW1]
 have f2:IntKind.i32.wrap (W1.enc+8)=({ W1 with q:=W1.q+1 }:Wd).enc:=qG ok1 (by omega) (by omega)
 have ok2:({ W1 with q:=W1.q+1 }:Wd).ok:=ok1
 generalize hW2:({ W1 with q:=W1.q+1 }:Wd)=W2 at f2 ok2
 have q2:W2.q≤12001:=by rw[←hW2];show W1.q+1≤12001;omega
 obtain ⟨W3,hW3⟩:∃W3,W2=W3:=⟨_,rfl⟩
 have ok3:W3.ok:=hW3 ▸ ok2
 have q3:W3.q≤12001:=by rw[←hW3];exact q2
 obtain ⟨W4,hW4⟩:∃W4,W3=W4:=⟨_,rfl⟩
 have hN:W4=o.next false false:=by rw[←hW4,←hW3,←hW2,←hW1];simp[Wd.next,hl,hs]
 intro w hF
 subst hW3
 subst hW4
 simp only[dD,bh,Try.f89,Option.getD_some]
 repeat w_go aa
 refine Goes.stop (fun w₁ h₁=>⟨rfl,?_⟩)
 exact gP ho _ rfl rfl rfl rfl rfl rfl rfl (hN ▸ rfl) rfl rfl (hN ▸ rfl)
set_option maxRecDepth 100000 in
set_option maxHeartbeats 8000000 in
theorem C4 {o:Wd} {it:Nat} (hl:o.l=1) (hs:o.s=0) {g:Goroutine} (hg:kMd c b₁ a₁ ops₁ i₁ rest₁ k₁ cs₁ o true false it g) :
  ∀w,Ok3 c tW w→Goes Try.prog false (fun _ w=>Ok3 c tW w) DC0 (fun g _=>g.status=.running∧kC2 c b₁ a₁ ops₁ i₁ rest₁ k₁ cs₁ o true false it g) 80 g w:=by
 obtain ⟨ho,ws,v,rfl⟩:=hg
 have h1:=ho.1
 have hq:o.q≤12001:=by have:=ho.2.1;omega
 have hq0:=ho.2.1
 have h4:bits .and .i32 o.enc 4=0:=by have:=lf h1 hq;rw[hs] at this;exact this
 have h5:bits .and .i32 o.enc 5=1:=by have:=iQ h1 hq;rw[hl,hs] at this;exact this
 have hl1:bits .and .i32 o.enc 1=1:=by have:=nk h1 hq;rw[hl] at this;exact this
 have f1:bits .or .i32 o.enc 1=({ o with l:=1 }:Wd).enc:=or1 h1 hq
 have ok1:({ o with l:=1 }:Wd).ok:=⟨Nat.le_refl 1,h1.2.1,h1.2.2⟩
 generalize hW1:({ o with l:=1 }:Wd)=W1 at f1 ok1
 have q1:W1.q=o.q:=by rw[←hW1]
 have f2:IntKind.i32.wrap (W1.enc+8)=({ W1 with q:=W1.q+1 }:Wd).enc:=qG ok1 (by omega) (by omega)
 have ok2:({ W1 with q:=W1.q+1 }:Wd).ok:=ok1
 generalize hW2:({ W1 with q:=W1.q+1 }:Wd)=W2 at f2 ok2
 have q2:W2.q≤12001:=by rw[←hW2];show W1.q+1≤12001;omega
 obtain ⟨W3,hW3⟩:∃W3,W2=W3:=⟨_,rfl⟩
 have ok3:W3.ok:=hW3 ▸ ok2
 have q3:W3.q≤12001:=by rw[←hW3];exact q2
 have w3:W3.w=1:=by rw[←hW3,←hW2,←hW1];exact (ho.2.2.1 rfl).1
 have f4:bits .and .i32 W3.enc 2=2:=by have:=xR ok3 q3;rw[w3] at this;exact this
 have f5:bits .andNot .i32 W3.enc 2=({ W3 with w:=0 }:Wd).enc:=zF ok3 q3 w3
 generalize hW4:({ W3 with w:=0 }:Wd)=W4 at f5
 have hN:W4=o.next true false:=by rw[←hW4,←hW3,←hW2,←hW1];simp[Wd.next,hl,hs]
 intro w hF
 subst hW3
 simp only[dD,bh,Try.f89,Option.getD_some]
 repeat w_go aa
 refine Goes.stop (fun w₁ h₁=>⟨rfl,?_⟩)
 exact gP ho _ rfl rfl rfl rfl rfl rfl rfl (hN ▸ rfl) rfl rfl (hN ▸ rfl)
set_option maxRecDepth 100000 in
set_option maxHeartbeats 8000000 in
theorem CB {o:Wd} {it:Nat} (hl:o.l=1) (hs:o.s=0) {g:Goroutine} (hg:kMd c b₁ a₁ ops₁ i₁ rest₁ k₁ cs₁ o true true it g) :
  ∀w,Ok3 c tW w→Goes Try.prog false (fun _ w=>Ok3 c tW w) DC0 (fun g _=>g.status=.running∧kC2 c b₁ a₁ ops₁ i₁ rest₁ k₁ cs₁ o true true it g) 80 g w:=by
 obtain ⟨ho,ws,v,rfl⟩:=hg
 have h1:=ho.1
 have hq:o.q≤12001:=by have:=ho.2.1;omega
 have hq0:=ho.2.1
 have h4:bits .and .i32 o.enc 4=0:=by have:=lf h1 hq;rw[hs] at this;exact this
 have h5:bits .and .i32 o.enc 5=1:=by have:=iQ h1 hq;rw[hl,hs] at this;exact this
 have hl1:bits .and .i32 o.enc 1=1:=by have:=nk h1 hq;rw[hl] at this;exact this
 have f1:bits .or .i32 o.enc 1=({ o with l:=1 }:Wd).enc:=or1 h1 hq
 have ok1:({ o with l:=1 }:Wd).ok:=⟨Nat.le_refl 1,h1.2.1,h1.2.2⟩
 generalize hW1:({ o with l:=1 }:Wd)=W1 at f1 ok1
 have q1:W1.q=o.q:=by rw[←hW1]
 have f2:IntKind.i32.wrap (W1.enc+8)=({ W1 with q:=W1.q+1 }:Wd).enc:=qG ok1 (by omega) (by omega)
 have ok2:({ W1 with q:=W1.q+1 }:Wd).ok:=ok1
 generalize hW2:({ W1 with q:=W1.q+1 }:Wd)=W2 at f2 ok2
 have q2:W2.q≤12001:=by rw[←hW2];show W1.q+1≤12001;omega
 have f3:bits .or .i32 W2.enc 4=({ W2 with s:=1 }:Wd).enc:=or4 ok2 q2
 have ok3:({ W2 with s:=1 }:Wd).ok:=⟨ok2.1,ok2.2.1,Nat.le_refl 1⟩
 generalize hW3:({ W2 with s:=1 }:Wd)=W3 at f3 ok3
 have q3:W3.q≤12001:=by rw[←hW3];exact q2
 have w3:W3.w=1:=by rw[←hW3,←hW2,←hW1];exact (ho.2.2.1 rfl).1
 have f4:bits .and .i32 W3.enc 2=2:=by have:=xR ok3 q3;rw[w3] at this;exact this
 have f5:bits .andNot .i32 W3.enc 2=({ W3 with w:=0 }:Wd).enc:=zF ok3 q3 w3
 generalize hW4:({ W3 with w:=0 }:Wd)=W4 at f5
 have hN:W4=o.next true true:=by rw[←hW4,←hW3,←hW2,←hW1];simp[Wd.next,hl,hs]
 intro w hF
 simp only[dD,bh,Try.f89,Option.getD_some]
 repeat w_go aa
 refine Goes.stop (fun w₁ h₁=>⟨rfl,?_⟩)
 exact gP ho _ rfl rfl rfl rfl rfl rfl rfl (hN ▸ rfl) rfl rfl (hN ▸ rfl)
set_option maxRecDepth 100000 in
set_option maxHeartbeats 8000000 in
theorem Du {o:Wd} {it:Nat} (hl:o.l=0) (hs:o.s=1) {g:Goroutine} (hg:kMd c b₁ a₁ ops₁ i₁ rest₁ k₁ cs₁ o false false it g) :
  ∀w,Ok3 c tW w→Goes Try.prog false (fun _ w=>Ok3 c tW w) DC0 (fun g _=>g.status=.running∧kC2 c b₁ a₁ ops₁ i₁ rest₁ k₁ cs₁ o false false it g) 80 g w:=by
 obtain ⟨ho,ws,v,rfl⟩:=hg
 have h1:=ho.1
 have hq:o.q≤12001:=by have:=ho.2.1;omega
 have hq0:=ho.2.1
 have h4:bits .and .i32 o.enc 4=4:=by have:=lf h1 hq;rw[hs] at this;exact this
 have h5:bits .and .i32 o.enc 5=4:=by have:=iQ h1 hq;rw[hl,hs] at this;exact this
 have hl1:bits .and .i32 o.enc 1=0:=by have:=nk h1 hq;rw[hl] at this;exact this
 obtain ⟨W1,hW1⟩:∃W1,o=W1:=⟨_,rfl⟩
 have ok1:W1.ok:=hW1 ▸ h1
 have q1:W1.q=o.q:=by rw[←hW1]
 have f2:IntKind.i32.wrap (W1.enc+8)=({ W1 with q:=W1.q+1 }:Wd).enc:=qG ok1 (by omega) (by omega)
 have ok2:({ W1 with q:=W1.q+1 }:Wd).ok:=ok1
 generalize hW2:({ W1 with q:=W1.q+1 }:Wd)=W2 at f2 ok2
 have q2:W2.q≤12001:=by rw[←hW2];show W1.q+1≤12001;omega
 obtain ⟨W3,hW3⟩:∃W3,W2=W3:=⟨_,rfl⟩
 have ok3:W3.ok:=hW3 ▸ ok2
 have q3:W3.q≤12001:=by rw[←hW3];exact q2
 obtain ⟨W4,hW4⟩:∃W4,W3=W4:=⟨_,rfl⟩
 have hN:W4=o.next false false:=by rw[←hW4,←hW3,←hW2,←hW1];simp[Wd.next,hl,hs]
 intro w hF
 subst hW1
 subst hW3
 subst hW4
 simp only[dD,bh,Try.f89,Option.getD_some]
 repeat w_go aa
 refine Goes.stop (fun w₁ h₁=>⟨rfl,?_⟩)
 exact gP ho _ rfl rfl rfl rfl rfl rfl rfl (hN ▸ rfl) rfl rfl (hN ▸ rfl)
set_option maxRecDepth 100000 in
set_option maxHeartbeats 8000000 in
theorem Dt {o:Wd} {it:Nat} (hl:o.l=1) (hs:o.s=1) {g:Goroutine} (hg:kMd c b₁ a₁ ops₁ i₁ rest₁ k₁ cs₁ o false false it g) :
  ∀w,Ok3 c tW w→Goes Try.prog false (fun _ w=>Ok3 c tW w) DC0 (fun g _=>g.status=.running∧kC2 c b₁ a₁ ops₁ i₁ rest₁ k₁ cs₁ o false false it g) 80 g w:=by
 obtain ⟨ho,ws,v,rfl⟩:=hg
 have h1:=ho.1
 have hq:o.q≤12001:=by have:=ho.2.1;omega
 have hq0:=ho.2.1
 have h4:bits .and .i32 o.enc 4=4:=by have:=lf h1 hq;rw[hs] at this;exact this
 have h5:bits .and .i32 o.enc 5=5:=by have:=iQ h1 hq;rw[hl,hs] at this;exact this
 have hl1:bits .and .i32 o.enc 1=1:=by have:=nk h1 hq;rw[hl] at this;exact this
 obtain ⟨W1,hW1⟩:∃W1,o=W1:=⟨_,rfl⟩
 have ok1:W1.ok:=hW1 ▸ h1
 have q1:W1.q=o.q:=by rw[←hW1]
 have f2:IntKind.i32.wrap (W1.enc+8)=({ W1 with q:=W1.q+1 }:Wd).enc:=qG ok1 (by omega) (by omega)
 have ok2:({ W1 with q:=W1.q+1 }:Wd).ok:=ok1
 generalize hW2:({ W1 with q:=W1.q+1 }:Wd)=W2 at f2 ok2
 have q2:W2.q≤12001:=by rw[←hW2];show W1.q+1≤12001;omega
 obtain ⟨W3,hW3⟩:∃W3,W2=W3:=⟨_,rfl⟩
 have ok3:W3.ok:=hW3 ▸ ok2
 have q3:W3.q≤12001:=by rw[←hW3];exact q2
 obtain ⟨W4,hW4⟩:∃W4,W3=W4:=⟨_,rfl⟩
 have hN:W4=o.next false false:=by rw[←hW4,←hW3,←hW2,←hW1];simp[Wd.next,hl,hs]
 intro w hF
 subst hW1
 subst hW3
 subst hW4
 simp only[dD,bh,Try.f89,Option.getD_some]
 repeat w_go aa
 refine Goes.stop (fun w₁ h₁=>⟨rfl,?_⟩)
 exact gP ho _ rfl rfl rfl rfl rfl rfl rfl (hN ▸ rfl) rfl rfl (hN ▸ rfl)
end
end Cs
end Go.Proofs.Ytpdemelchhkfaaa
