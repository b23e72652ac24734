import Derived.Test.YtpcnpkhgjanamaaGreatDoorPz
import Derived.Maps.OwnIn
import Derived.Deep.AppendLies
import Derived.Test.YtpcnpkhgjanamaaGreatDoorJn21
import Derived.Test.YtpcnpkhgjanamaaGreatDoorJn23
namespace Go.Proofs.YtpcnpkhgjanamaaGreatDoor
open Go.Proofs.Tryz renaming prog→qf,underlying154→X0,ntmps135→Zu
open Go renaming Value→R2,World→V8,TypeId→Wj,Calls→WA
set_option maxRecDepth 100000
set_option maxHeartbeats 4000000
section
open Go.RowKit PK Vg
def Up(B:Nat)(v:R2):Prop:=∀a n c,v=.slice (some a) n c→B≤a.block
theorem Jg(name:ByteArray)(w:V8):WA qf 135 #[.string name] w fun e w'=>∃R,e=.returned (.tuple #[.agg (b6 (sM name.data.toList) R),.int .i64 (tg name.data.toList)])∧aq w' R (qI name.data.toList).length (fun i=>((qI name.data.toList).getD i 0:Nat))∧Up w.heap.size R∧Below w.heap.size w w':=by
 have q:=bR iL;have b:=af.new w 154 (b6 (fun _=>0) (.slice none 0 0));have d:Below w.heap.size w (w.alloc (.cells (b6 (fun _=>0) (.slice none 0 0)) 154)):=(Below.refl _ w).alloc (R3 _) _;have q0:=kH [73] name;have q1:=kH [73,73] name;have q2:=kH [73,73,73] name;have q3:=kH [73,86] name;have q4:=kH [86] name;by_cases h0:name.data.toList=[73]
 ·have k:Hid (sM name.data.toList=gO SF):=by rw[Hid,h0];rfl
  have h:Hid (qI name.data.toList=[Vg.num 81]):=by rw[Hid,h0];rfl
  have j:Hid (tg name.data.toList=0):=by rw[Hid,h0];rfl
  rw[YA h0]at q0;have HC:Hid (∀W,WA qf 160 #[.string ⟨#[69,75,77,70,76,71,68,81,86,90,78,84,79,87,89,72,88,85,83,80,65,73,66,82,67,74]⟩,.int .u8 81] W fun e w'=>∃B,e=.returned (.agg (b6 (gO SF) (.slice (some ⟨B,0,none⟩) 1 1)))∧W.heap.size≤B∧aq w' (.slice (some ⟨B,0,none⟩) 1 1) [Vg.num 81].length (fun i=>(([Vg.num 81].getD i 0:Nat):Int))∧Below W.heap.size W w'):=fun W=>gN ⟨SF.toArray⟩ (od vde) vde 81 vde W;clear h0 q1 q2 q3 q4;go_enter Tryz.func135,Zu
  go_wp2_with fail
  refine(HC.out _).mono ?_;rintro e V ⟨B,rfl,hB,hn,hb⟩;have o:Hid (w.heap.size≤B):=by rw[Hid];simp at hB;omega
  have g:=b.below hb b.lt;have m:=d.trans (hb.mono d.size);have s:=b.lt;have HN:Hid _:=jL hn w.heap.size (b6 (gO SF) (.slice (some ⟨B,0,none⟩) 1 1)) (by intro e;injection e with e;exact absurd e (by show ¬B=w.heap.size;omega));clear hb b d HC q hn;generalize gO SF=f at *
  go_wp2_with (first|refine Wk rfl 154 _ _ rfl w.heap.size (b6 f (.slice (some ⟨B,0,none⟩) 1 1)) rfl rfl 154 _ g (by rw[aO];exact bn) (by simp only[aO]) (gC rfl) ?_)
  refine WL (v:=.tuple #[.agg (b6 f (.slice (some ⟨B,0,none⟩) 1 1)),.int .i64 0]) (aF rfl _ _ w.heap.size 154 _ (0,0) _ _ rfl rfl (g.row _) X0 rfl (by rw[aO];exact bn)) rfl ?_;rw[k.out,j.out,h.out];exact⟨_,rfl,HN.out,(fun a n c e=>by cases e;exact o.out),Below.setRow m _ (R3 _) _⟩
 ·rw[YF h0]at q0
  by_cases h1:name.data.toList=[73,73]
  ·have k:Hid (sM name.data.toList=gO SN):=by rw[Hid,h1];rfl
   have h:Hid (qI name.data.toList=[Vg.num 69]):=by rw[Hid,h1];rfl
   have j:Hid (tg name.data.toList=0):=by rw[Hid,h1];rfl
   rw[YA h1]at q1;have HC:Hid (∀W,WA qf 160 #[.string ⟨#[65,74,68,75,83,73,82,85,88,66,76,72,87,84,77,67,81,71,90,78,80,89,70,86,79,69]⟩,.int .u8 69] W fun e w'=>∃B,e=.returned (.agg (b6 (gO SN) (.slice (some ⟨B,0,none⟩) 1 1)))∧W.heap.size≤B∧aq w' (.slice (some ⟨B,0,none⟩) 1 1) [Vg.num 69].length (fun i=>(([Vg.num 69].getD i 0:Nat):Int))∧Below W.heap.size W w'):=fun W=>gN ⟨SN.toArray⟩ (od vde) vde 69 vde W;clear h0 h1 q2 q3 q4;go_enter Tryz.func135,Zu
   go_wp2_with fail
   refine(HC.out _).mono ?_;rintro e V ⟨B,rfl,hB,hn,hb⟩;have o:Hid (w.heap.size≤B):=by rw[Hid];simp at hB;omega
   have g:=b.below hb b.lt;have m:=d.trans (hb.mono d.size);have s:=b.lt;have HN:Hid _:=jL hn w.heap.size (b6 (gO SN) (.slice (some ⟨B,0,none⟩) 1 1)) (by intro e;injection e with e;exact absurd e (by show ¬B=w.heap.size;omega));clear hb b d HC q hn;generalize gO SN=f at *
   go_wp2_with (first|refine Wk rfl 154 _ _ rfl w.heap.size (b6 f (.slice (some ⟨B,0,none⟩) 1 1)) rfl rfl 154 _ g (by rw[aO];exact bn) (by simp only[aO]) (gC rfl) ?_)
   refine WL (v:=.tuple #[.agg (b6 f (.slice (some ⟨B,0,none⟩) 1 1)),.int .i64 0]) (aF rfl _ _ w.heap.size 154 _ (0,0) _ _ rfl rfl (g.row _) X0 rfl (by rw[aO];exact bn)) rfl ?_;rw[k.out,j.out,h.out];exact⟨_,rfl,HN.out,(fun a n c e=>by cases e;exact o.out),Below.setRow m _ (R3 _) _⟩
  ·rw[YF h1]at q1
   by_cases h2:name.data.toList=[73,73,73]
   ·have k:Hid (sM name.data.toList=gO SU):=by rw[Hid,h2];rfl
    have h:Hid (qI name.data.toList=[Vg.num 86]):=by rw[Hid,h2];rfl
    have j:Hid (tg name.data.toList=0):=by rw[Hid,h2];rfl
    rw[YA h2]at q2;have HC:Hid (∀W,WA qf 160 #[.string ⟨#[66,68,70,72,74,76,67,80,82,84,88,86,90,78,89,69,73,87,71,65,75,77,85,83,81,79]⟩,.int .u8 86] W fun e w'=>∃B,e=.returned (.agg (b6 (gO SU) (.slice (some ⟨B,0,none⟩) 1 1)))∧W.heap.size≤B∧aq w' (.slice (some ⟨B,0,none⟩) 1 1) [Vg.num 86].length (fun i=>(([Vg.num 86].getD i 0:Nat):Int))∧Below W.heap.size W w'):=fun W=>gN ⟨SU.toArray⟩ (od vde) vde 86 vde W;clear h0 h1 h2 q3 q4;go_enter Tryz.func135,Zu
    go_wp2_with fail
    refine(HC.out _).mono ?_;rintro e V ⟨B,rfl,hB,hn,hb⟩;have o:Hid (w.heap.size≤B):=by rw[Hid];simp at hB;omega
    have g:=b.below hb b.lt;have m:=d.trans (hb.mono d.size);have s:=b.lt;have HN:Hid _:=jL hn w.heap.size (b6 (gO SU) (.slice (some ⟨B,0,none⟩) 1 1)) (by intro e;injection e with e;exact absurd e (by show ¬B=w.heap.size;omega));clear hb b d HC q hn;generalize gO SU=f at *
    go_wp2_with (first|refine Wk rfl 154 _ _ rfl w.heap.size (b6 f (.slice (some ⟨B,0,none⟩) 1 1)) rfl rfl 154 _ g (by rw[aO];exact bn) (by simp only[aO]) (gC rfl) ?_)
    refine WL (v:=.tuple #[.agg (b6 f (.slice (some ⟨B,0,none⟩) 1 1)),.int .i64 0]) (aF rfl _ _ w.heap.size 154 _ (0,0) _ _ rfl rfl (g.row _) X0 rfl (by rw[aO];exact bn)) rfl ?_;rw[k.out,j.out,h.out];exact⟨_,rfl,HN.out,(fun a n c e=>by cases e;exact o.out),Below.setRow m _ (R3 _) _⟩
   ·rw[YF h2]at q2
    by_cases h3:name.data.toList=[73,86]
    ·have k:Hid (sM name.data.toList=gO SG):=by rw[Hid,h3];rfl
     have h:Hid (qI name.data.toList=[Vg.num 74]):=by rw[Hid,h3];rfl
     have j:Hid (tg name.data.toList=0):=by rw[Hid,h3];rfl
     rw[YA h3]at q3;have HC:Hid (∀W,WA qf 160 #[.string ⟨#[69,83,79,86,80,90,74,65,89,81,85,73,82,72,88,76,78,70,84,71,75,68,67,77,87,66]⟩,.int .u8 74] W fun e w'=>∃B,e=.returned (.agg (b6 (gO SG) (.slice (some ⟨B,0,none⟩) 1 1)))∧W.heap.size≤B∧aq w' (.slice (some ⟨B,0,none⟩) 1 1) [Vg.num 74].length (fun i=>(([Vg.num 74].getD i 0:Nat):Int))∧Below W.heap.size W w'):=fun W=>gN ⟨SG.toArray⟩ (od vde) vde 74 vde W;clear h0 h1 h2 h3 q4;go_enter Tryz.func135,Zu
     go_wp2_with fail
     refine(HC.out _).mono ?_;rintro e V ⟨B,rfl,hB,hn,hb⟩;have o:Hid (w.heap.size≤B):=by rw[Hid];simp at hB;omega
     have g:=b.below hb b.lt;have m:=d.trans (hb.mono d.size);have s:=b.lt;have HN:Hid _:=jL hn w.heap.size (b6 (gO SG) (.slice (some ⟨B,0,none⟩) 1 1)) (by intro e;injection e with e;exact absurd e (by show ¬B=w.heap.size;omega));clear hb b d HC q hn;generalize gO SG=f at *
     go_wp2_with (first|refine Wk rfl 154 _ _ rfl w.heap.size (b6 f (.slice (some ⟨B,0,none⟩) 1 1)) rfl rfl 154 _ g (by rw[aO];exact bn) (by simp only[aO]) (gC rfl) ?_)
     refine WL (v:=.tuple #[.agg (b6 f (.slice (some ⟨B,0,none⟩) 1 1)),.int .i64 0]) (aF rfl _ _ w.heap.size 154 _ (0,0) _ _ rfl rfl (g.row _) X0 rfl (by rw[aO];exact bn)) rfl ?_;rw[k.out,j.out,h.out];exact⟨_,rfl,HN.out,(fun a n c e=>by cases e;exact o.out),Below.setRow m _ (R3 _) _⟩
    ·rw[YF h3]at q3
     by_cases h4:name.data.toList=[86]
     ·have k:Hid (sM name.data.toList=gO SL):=by rw[Hid,h4];rfl
      have h:Hid (qI name.data.toList=[Vg.num 90]):=by rw[Hid,h4];rfl
      have j:Hid (tg name.data.toList=0):=by rw[Hid,h4];rfl
      rw[YA h4]at q4;have HC:Hid (∀W,WA qf 160 #[.string ⟨#[86,90,66,82,71,73,84,89,85,80,83,68,78,72,76,88,65,87,77,74,81,79,70,69,67,75]⟩,.int .u8 90] W fun e w'=>∃B,e=.returned (.agg (b6 (gO SL) (.slice (some ⟨B,0,none⟩) 1 1)))∧W.heap.size≤B∧aq w' (.slice (some ⟨B,0,none⟩) 1 1) [Vg.num 90].length (fun i=>(([Vg.num 90].getD i 0:Nat):Int))∧Below W.heap.size W w'):=fun W=>gN ⟨SL.toArray⟩ (od vde) vde 90 vde W;clear h0 h1 h2 h3 h4;go_enter Tryz.func135,Zu
      go_wp2_with fail
      refine(HC.out _).mono ?_;rintro e V ⟨B,rfl,hB,hn,hb⟩;have o:Hid (w.heap.size≤B):=by rw[Hid];simp at hB;omega
      have g:=b.below hb b.lt;have m:=d.trans (hb.mono d.size);have s:=b.lt;have HN:Hid _:=jL hn w.heap.size (b6 (gO SL) (.slice (some ⟨B,0,none⟩) 1 1)) (by intro e;injection e with e;exact absurd e (by show ¬B=w.heap.size;omega));clear hb b d HC q hn;generalize gO SL=f at *
      go_wp2_with (first|refine Wk rfl 154 _ _ rfl w.heap.size (b6 f (.slice (some ⟨B,0,none⟩) 1 1)) rfl rfl 154 _ g (by rw[aO];exact bn) (by simp only[aO]) (gC rfl) ?_)
      refine WL (v:=.tuple #[.agg (b6 f (.slice (some ⟨B,0,none⟩) 1 1)),.int .i64 0]) (aF rfl _ _ w.heap.size 154 _ (0,0) _ _ rfl rfl (g.row _) X0 rfl (by rw[aO];exact bn)) rfl ?_;rw[k.out,j.out,h.out];exact⟨_,rfl,HN.out,(fun a n c e=>by cases e;exact o.out),Below.setRow m _ (R3 _) _⟩
     ·rw[YF h4]at q4
      have l:Ra name.data.toList=none:=Oz fun i hi e=>by
       rcases(by omega:i=0∨i=1∨i=2∨i=3∨i=4)with rfl|rfl|rfl|rfl|rfl
       ·exact h0 e.symm
       ·exact h1 e.symm
       ·exact h2 e.symm
       ·exact h3 e.symm
       ·exact h4 e.symm
      have k:Hid (sM name.data.toList=fun _=>0):=by unfold sM;rw[Hid,l]
      have h:Hid (qI name.data.toList=[]):=by unfold qI;rw[Hid,l]
      have j:Hid (tg name.data.toList=7):=by unfold tg;rw[Hid,l]
      clear h0 h1 h2 h3 h4 l;go_enter Tryz.func135,Zu
      go_wp2_with (first|refine cS rfl 154 rfl _ DZ ?_|refine Wk rfl 154 _ _ rfl w.heap.size (b6 (fun _=>0) (.slice none 0 0)) rfl rfl 154 _ b (by rw[aO];exact bn) (by simp only[aO]) (gC rfl) ?_)
      refine WL (v:=.tuple #[.agg (b6 (fun _=>0) (.slice none 0 0)),.int .i64 7]) (aF rfl _ _ w.heap.size 154 _ (0,0) _ _ rfl rfl (b.row _) X0 rfl (by rw[aO];exact bn)) rfl ?_;rw[k.out,j.out,h.out];exact⟨_,rfl,⟨none,0,rfl,vde,fun c hc=>by cases hc⟩,(fun a n c e=>by cases e),Below.setRow d _ (R3 _) _⟩
def Nw(B E:Nat)(P:V8→Prop)(W:V8):Prop:=∀W',(∀b o x,B≤b→b<E→W.cell? ⟨b,o,none⟩=some x→W'.cell? ⟨b,o,none⟩=some x)→P W'
theorem Nw.here{B E:Nat}{P:V8→Prop}{W:V8}(h:Nw B E P W):P W:=h W (fun _ _ _ _ _ h=>h)
theorem Nw.keep{B E:Nat}{P:V8→Prop}{W W':V8}(h:Nw B E P W)(hk:∀b o x,B≤b→b<E→W.cell? ⟨b,o,none⟩=some x→W'.cell? ⟨b,o,none⟩=some x):Nw B E P W':=fun W2 h2=>h W2 (fun b o x h3 h4 h5=>h2 b o x h3 h4 (hk b o x h3 h4 h5))
theorem Nw.mono{B E B' E':Nat}{P:V8→Prop}{W:V8}(h:Nw B E P W)(hB:B'≤B)(hE:E≤E'):Nw B' E' P W:=fun W2 h2=>h W2 (fun b o x h3 h4 h5=>h2 b o x vom vom h5)
theorem Nw.imp{B E:Nat}{P Q:V8→Prop}{W:V8}(h:Nw B E P W)(hi:∀W,P W→Q W):Nw B E Q W:=fun W2 h2=>hi W2 (h W2 h2)
theorem Nw.below{B E:Nat}{P:V8→Prop}{W W':V8}(h:Nw B E P W)(hb:Below W.heap.size W W'):Nw B E P W':=h.keep fun b o _ _ _ h5=>(hb.cell (p:=⟨b,o,none⟩) (aA h5)).trans h5
theorem oQ{W:V8}{b o:Nat}{x:R2}(h:W.cell? ⟨b,o,none⟩=some x):∃c T z,W.heap[b]?=some (.cells c T z):=by
 unfold World.cell? at h;split at h
 ·exact⟨_,_,_,by assumption⟩
 all_goals first|cases h|simp at h
theorem Nw.grown{B E:Nat}{P:V8→Prop}{W W':V8}{row:Option Nat}(h:Nw B E P W)(hg:W.grownBy W' row)(hr:∀r,row=some r→(r<B∨E≤r)∨∃o:Obj,W.heap[r]?=some o∧o.isCells=false):Nw B E P W':=h.keep fun b o x h3 h4 h5=>by
 refine(hg.cell_far ⟨b,o,none⟩ (aA h5) (fun e=>?_)).trans h5;rcases hr b e.symm with h6|⟨o2,h6,h7⟩
 ·omega
 ·obtain⟨c,T,z,h8⟩:=oQ h5
  rw[h8]at h6;cases h6;cases h7
theorem za{W:V8}{B n:Nat}{R:R2}{f:Nat→Int}(h:aq W R n f)(hf:Up B R):Nw B W.heap.size (fun W=>aq W R n f) W:=by
 intro W' hk;obtain⟨a,cap,rfl,hm,hc⟩:=h;refine⟨a,cap,rfl,hm,fun c hcn=>?_⟩;obtain⟨b,o,rfl,d⟩:=hc c hcn;exact⟨b,o,rfl,hk b _ _ (hf _ _ _ rfl) (aA d) d⟩
def rws(f:Nat→Array R2):Nat→List R2
 |0=>[]
 |k+1=>rws f k++(f k).toList
theorem FV{f:Nat→Array R2}{s:Nat}:∀{k:Nat},(∀i,i<k→(f i).size=s)→(rws f k).length=k*s
 |0,_=>by simp[rws]
 |k+1,h=>by
  rw[rws,WM,FV (fun i hi=>h i vom),Wx,h k vom,Y5]
theorem EH{f:Nat→Array R2}{s:Nat}:∀{k:Nat},(∀i,i<k→(f i).size=s)→∀r,r<k→∀j v,(f r).toList[j]?=some v→(rws f k)[r*s+j]?=some v
 |0,_,r,hr,_,_,_=>by omega
 |k+1,h,r,hr,j,v,hv=>by
  have hl:=FV (f:=f) (s:=s) (k:=k) (fun i hi=>h i vom)
  have hj:j<s:=by
   have:=(WW.1 hv).1;rw[Wx,h r hr]at this;exact this
  rw[rws];by_cases e:r=k
  ·subst e
   rw[WQ vom,hl,Nat.add_sub_cancel_left];exact hv
  ·have h1:r*s+j<k*s:=by
    have:(r+1)*s≤k*s:=Nat.mul_le_mul_right s vom;rw[Y5]at this;omega
   rw[WS vom];exact EH (fun i hi=>h i vom) r vom j v hv
theorem xR{W:V8}{B k s:Nat}{T:Wj}{v:R2}{f:Nat→Array R2}(h:W.ownsRow B T s v k (rws f k))(hs:∀i,i<k→(f i).size=s):∃a cap,v=.slice a k cap∧k≤maxLen∧∀r,r<k→∃b o,a=some ⟨b,o,none⟩∧B≤b∧W.rangeAt b (o+r*s) (f r).toList:=by
 obtain⟨hl,⟨rfl,rfl⟩|⟨g,cap,cur,rfl,h1,h2,h3,h4,h5,h6⟩⟩:=h
 ·exact⟨none,0,rfl,vde,fun r hr=>by omega⟩
 ·refine⟨_,cap,rfl,vom,fun r hr=>⟨g,0,rfl,h1,fun j v hv=>?_⟩⟩
  have h7:=EH hs r hr j v hv;rw[←h6]at h7
  have h8:cur[r*s+j]?=some v:=by
   rw[List.getElem?_take]at h7;split at h7
   ·rw[←Wo];exact h7
   ·cases h7
  rw[WN];exact(Xf W g (r*s+j) cur T (0,0) h2).trans h8
theorem vC{w w':V8}{B:Nat}{T:Wj}{s n:Nat}{v:R2}{l:List R2}(h:w.ownsRow B T s v n l)(hb:Below w.heap.size w w'):w'.ownsRow B T s v n l:=by
 obtain⟨h1,h2⟩:=h;refine⟨h1,?_⟩;rcases h2 with h2|⟨g,cap,cur,e,hB,hg,h3⟩
 ·exact .inl h2
 ·exact .inr ⟨g,cap,cur,e,hB,(hb.block g (Wd.1 hg).1).trans hg,h3⟩
theorem uB{w:V8}{B:Nat}{T:Wj}{s n:Nat}{v:R2}{l:List R2}(h:w.ownsRow B T s v n l):∀g,v.ownBlock=some g→∃c,w.heap[g]?=some (.cells c T (0,0)):=by
 obtain⟨_,⟨rfl,_⟩|⟨g,cap,cur,rfl,_,h2,_⟩⟩:=h
 ·intro g hg;cases hg
 ·intro g2 hg2;cases hg2;exact⟨_,h2⟩
structure xe(W:V8)(B:Nat)(v:R2)(k:Nat)(N:Nat→List UInt8)(R:Nat→R2):Prop where
 own:W.ownsRow B 154 27 v k (rws (fun i=>b6 (sM (N i)) (R i)) k)
 lD:∀j,j<k→∃b e,B≤b∧e≤W.heap.size∧(∀g,v.ownBlock=some g→g<b∨e≤g)∧Nw b e (fun W=>aq W (R j) (qI (N j)).length (fun i=>((qI (N j)).getD i 0:Nat))) W
theorem xe.nil(W:V8)(B:Nat)(N:Nat→List UInt8)(R:Nat→R2):xe W B (.slice none 0 0) 0 N R:=⟨World.ownsRow_nil W B _ 27,fun j hj=>by omega⟩
theorem xe.grown{W W':V8}{B k:Nat}{v:R2}{N:Nat→List UInt8}{R:Nat→R2}{row:Option Nat}(h:xe W B v k N R)(hg:W.grownBy W' row)(hr:∀r,row=some r→r<B∨∃o:Obj,W.heap[r]?=some o∧o.isCells=false):xe W' B v k N R:=by
 refine⟨h.own.kept hg ?_,fun j hj=>?_⟩
 ·cases hv:v.ownBlock with
  |none=>exact .inl rfl
  |some g=>
   right;intro e;have hl:=World.ownsRow.lt h.own g hv;rcases hr g e.symm with h1|⟨o,h1,h2⟩
   ·omega
   ·obtain⟨c,h3⟩:=uB h.own g hv
    rw[h3]at h1;cases h1;cases h2
 ·obtain⟨b,e,h1,h2,h3,h4⟩:=h.lD j hj
  refine⟨b,e,h1,Ws h2 hg.size,h3,h4.grown hg (fun r hr2=>?_)⟩;rcases hr r hr2 with h5|h5
  ·exact .inl (.inl vom)
  ·exact .inr h5
theorem xe.below{W W':V8}{B k:Nat}{v:R2}{N:Nat→List UInt8}{R:Nat→R2}(h:xe W B v k N R)(hb:Below W.heap.size W W'):xe W' B v k N R:=by
 refine⟨vC h.own hb,fun j hj=>?_⟩;obtain⟨b,e,h1,h2,h3,h4⟩:=h.lD j hj;exact⟨b,e,h1,Ws h2 hb.size,h3,h4.below hb⟩
theorem xe.congr{W:V8}{B k:Nat}{v:R2}{N:Nat→List UInt8}{R R':Nat→R2}(h:xe W B v k N R)(hR:∀j,j<k→R' j=R j):xe W B v k N R':=by
 have e:∀m,m≤k→rws (fun i=>b6 (sM (N i)) (R' i)) m=rws (fun i=>b6 (sM (N i)) (R i)) m:=fun m=>by
  induction m with
  |zero=>intro _;rfl
  |succ m ih=>intro hm;rw[rws,rws,ih vom,hR m vom]
 refine⟨by rw[e k (R3 _)];exact h.own,fun j hj=>?_⟩;rw[hR j hj];exact h.lD j hj
theorem xe.more{W W':V8}{B k b:Nat}{v v' Q:R2}{N:Nat→List UInt8}{R:Nat→R2}(h:xe W B v k N R)(hB:B≤b)(hvb:∀g,v.ownBlock=some g→g<b)(hQ:Nw b W.heap.size (fun W=>aq W Q (qI (N k)).length (fun i=>((qI (N k)).getD i 0:Nat))) W)
  (hown:W'.ownsRow B 154 27 v' (k+1) (rws (fun i=>b6 (sM (N i)) (R i)) k++(b6 (sM (N k)) Q).toList)) (hg:W.grownBy W' v.ownBlock) (hat:v'.ownBlock=v.ownBlock∨v'.ownBlock=some W.heap.size) :
  xe W' B v' (k+1) N (fun i=>if i=k then Q else R i):=by
 have h0:xe W B v k N (fun i=>if i=k then Q else R i):=h.congr fun j hj=>V9 vom;refine⟨?_,fun j hj=>?_⟩
 ·have e:rws (fun i=>b6 (sM (N i)) (if i=k then Q else R i)) k=rws (fun i=>b6 (sM (N i)) (R i)) k:=by
   have:∀m,m≤k→rws (fun i=>b6 (sM (N i)) (if i=k then Q else R i)) m=rws (fun i=>b6 (sM (N i)) (R i)) m:=fun m=>by
    induction m with
    |zero=>intro _;rfl
    |succ m ih=>intro hm;rw[rws,rws,ih vom,V9 vom]
   exact this k (R3 _)
  rw[rws,e,Wc rfl];exact hown
 ·by_cases ej:j=k
  ·subst ej
   simp only[Wc];refine⟨b,W.heap.size,hB,hg.size,fun g hgv=>?_,hQ.grown hg (fun r hr=>.inl (.inl (hvb r hr)))⟩;rcases hat with h1|h1
   ·exact .inl (hvb g (h1▸hgv))
   ·rw[h1]at hgv;cases hgv;exact .inr (R3 _)
  ·obtain⟨b2,e,h1,h2,h3,h4⟩:=h.lD j vom
   simp only[V9 ej];refine⟨b2,e,h1,Ws h2 hg.size,fun g hgv=>?_,h4.grown hg (fun r hr=>.inl (h3 r hr))⟩;rcases hat with h5|h5
   ·exact h3 g (h5▸hgv)
   ·rw[h5]at hgv;cases hgv;exact .inr h2
theorem xe.Qp{W:V8}{B k:Nat}{v:R2}{N:Nat→List UInt8}{R:Nat→R2}(h:xe W B v k N R):Nw B W.heap.size (fun W=>cA W v k (fun r=>sM (N r)) (fun r=>(qI (N r)).length) (fun r i=>((qI (N r)).getD i 0:Nat))) W:=by
 intro W' hk;obtain⟨a,cap,rfl,hm,hr⟩:=xR h.own (fun i _=>aO _ _);refine⟨a,cap,R,rfl,hm,fun r hrk=>?_,fun r hrk=>?_⟩
 ·obtain⟨b,o,rfl,hb,hc⟩:=hr r hrk
  exact⟨b,o,rfl,fun j v hv=>hk b _ _ hb (aA (hc j v hv)) (hc j v hv)⟩
 ·obtain⟨b,e,h1,h2,_,h4⟩:=h.lD r hrk
  exact h4 W' (fun b2 o x h5 h6 h7=>hk b2 o x vom vom h7)
end
section
open Go.RowKit PK Vg Sm
attribute [local go_sem] Oper.semAt_some
theorem sv{W W':V8}(h:Below W.heap.size W W'):KeepsOthers W W':=⟨h.size,fun k _ hk _=>(h.block k (Wd.1 hk).1).trans hk⟩
theorem l8{P:Program}{fn:Func}{tmps:Array R2}{R:Ending→V8→Prop}{D:Nat}{u:FrameMode}{W:V8}(hu:u≠.run)(hD:W.heap[D]?=some (.deferred (some [])))
  (h:LeavesInM Fence.wide 9 P fn tmps R [] u (W.putObj D (.deferred none))):LeavesInM Fence.wide 9 P fn tmps R [{ target:=.collected D,args:=#[] }] u W:=
 ⟨hu,.inl ⟨D,_,rfl,run_takeDeferred hD,h⟩⟩
end
section
open Go.RowKit PK
section
variable{P:Program}
theorem sN(w:V8)(t e:Wj)(n:Nat)(hn:n*2≤2 ^ 24)(h0:0<n)(hu:P.underlying t=some (.slice e))(z c:Array R2)(hzs:z.size=n)(hc:c.size=n)(hz:(P.info? e).map (fun i=>(i.zero,i.size))=some (some (.agg z),n)):
  (Instr.buildSlice t 1 #[(0,.agg c)]).run P w=.ok (.slice (some ⟨w.heap.size,0,none⟩) 1 1) (w.alloc (.cells c e)):=by
 obtain⟨f,d⟩:=zero_of_info hz;cases hq:P.info? e with
 |none=>simp[hq]at hz
 |some i=>
  have hs:i.size=n:=by simpa[hq]using d
  have h:∀W,(sizeOf e).run P W=.ok n W:=fun W=>by simp[sizeOf,typeInfo,hq,hs]
  have g:(Value.agg c).cells=c:=rfl
  have a:Instr.fill (fun i=>some (i*n,n)) (bJ n fun x=>z[x % n]!) [(0,.agg c)]=some c:=by
   rw[Instr.fill];simp only[g,hc,aU];rw[V9 vsi];have hx:=jM n (0*n) c.toList 0 (fun x=>z[x % n]!);rw[←Array.foldl_toList,Array.toList_zipIdx,hx];show some _=some c
   congr 1
   apply Xc;intro i;by_cases hi:i<n
   ·rw[aM _ hi,Wc (by simp[hc];omega)]
    simp[List.getD_eq_getElem?_getD,hc,hi]
   ·rw[Wv (by rw[aU];omega),Wv vom]
  have h3:¬(n > 2 ^ 24):=vom;have h4:¬(n=0):=vom;have b:(Value.agg z).cells=z:=rfl;simp only[Instr.buildSlice,XQ,run_underlying hu,Xo,h,Nat.one_mul,h3,h4,X9,f,Sem.run_pure,b,hzs,mJ,a];simp[newRow]
end
end
end Go.Proofs.YtpcnpkhgjanamaaGreatDoor
