import Derived.Test.YtpdemelchhkfaaaJn23
namespace Go.Proofs.Ytpdemelchhkfaaa
namespace Cs
open Go.Conc Go.RowKit Go.Conc.Lib Go.ConcR.Gen Go.ConcN.Gen
open Go.ConcR (KK WgAt wgBlock stA smA rd wr mk DC0)
open Go.ConcM (OsLater goes_pad goes_le)
noncomputable def k27:Code:=match kA with | .seq _ (.seq _ (.seq _ c))=>c | _=>.skip
noncomputable def A7:Array Oper:=match kA with | .seq _ (.seq _ (.seq (.seq _ (.cond _ (.region _ o _) _)) _))=>o | _=>#[]
section
variable (c:Cst) (b₁:Frame) (a₁:Act) (ops₁:Array Oper) (i₁:Nat) (rest₁:List Nat) (k₁:List Item) (cs₁:List Frame)
def kT1 (s:Bool) (g:Goroutine):Prop:=∃(v:Nat→Value),g=G ((base 89).at ⟨#[.pointer (some ⟨c.Fd,0,none⟩),v 1,v 2,.bool s,v 4,v 5,v 6,v 7,v 8,v 9,v 10,v 11,v 12,v 13,v 14,v 15,v 16,v 17,v 18,v 19,v 20,v 21,v 22,v 23,v 24,v 25,v 26,v 27,v 28,v 29,v 30,v 31,v 32,v 33,v 34,v 35,v 36,v 37,v 38,v 39,v 40,v 41,v 42,v 43,v 44,v 45,v 46,v 47,v 48,v 49,v 50,v 51,v 52,v 53,v 54,v 55,v 56,v 57,v 58,v 59,v 60,v 61,v 62,v 63,v 64,v 65,v 66,v 67,v 68,v 69,v 70,v 71,v 72,v 73,v 74,v 75,v 76,v 77,v 78,v 79,v 80,v 81,v 82,v 83,v 84,v 85,v 86,v 87,v 88,v 89,v 90,v 91,v 92,v 93,v 94,v 95,v 96,v 97,v 98,v 99,v 100,v 101,v 102,v 103,v 104,v 105,v 106,v 107,v 108,v 109,v 110,v 111,v 112,v 113,v 114,v 115,v 116,v 117,v 118,v 119,v 120,v 121,v 122,v 123,v 124,v 125,v 126,v 127,v 128,v 129,v 130,v 131,v 132,v 133,v 134,v 135,v 136,v 137,v 138],[]⟩ [.inRegion A7 [0,1],.code k27,.inBlock 1,.inLoop bh,.inBlock 0,.code cy]) (b₁.at a₁ (.inRegion ops₁ (i₁ :: rest₁) :: k₁) :: cs₁)
end
section
variable {c:Cst} {tW tX:TypeId} {R:Nat→Array Value} {β:Type} {eB:β→Nat→Value} {up:β→Nat→β} {k q:Nat} {Ur:Goroutine→Prop}
variable {b₁:Frame} {a₁:Act} {ops₁:Array Oper} {i₁:Nat} {rest₁:List Nat} {k₁:List Item} {cs₁:List Frame}
set_option maxRecDepth 100000 in
theorem rQ {s:Bool} (l:Array Value) (hl:l.size=139) (h0:l[0]? = some (.pointer (some ⟨c.Fd,0,none⟩))) (h3:l[3]? = some (.bool s)) :
  kT1 c b₁ a₁ ops₁ i₁ rest₁ k₁ cs₁ s (G ((base 89).at ⟨l,[]⟩ [.inRegion A7 [0,1],.code k27,.inBlock 1,.inLoop bh,.inBlock 0,.code cy]) (b₁.at a₁ (.inRegion ops₁ (i₁ :: rest₁) :: k₁) :: cs₁)):=by
 have e:=bU l 139 hl
 generalize hv:(fun i=>l.getD i undef)=v at e
 have fv:∀i x,l[i]? = some x→v i=x:=fun i x hx=>by rw[←hv];simp[Array.getD_eq_getD_getElem?,hx]
 refine ⟨v,?_⟩
 have q:l=#[v 0,v 1,v 2,v 3,v 4,v 5,v 6,v 7,v 8,v 9,v 10,v 11,v 12,v 13,v 14,v 15,v 16,v 17,v 18,v 19,v 20,v 21,v 22,v 23,v 24,v 25,v 26,v 27,v 28,v 29,v 30,v 31,v 32,v 33,v 34,v 35,v 36,v 37,v 38,v 39,v 40,v 41,v 42,v 43,v 44,v 45,v 46,v 47,v 48,v 49,v 50,v 51,v 52,v 53,v 54,v 55,v 56,v 57,v 58,v 59,v 60,v 61,v 62,v 63,v 64,v 65,v 66,v 67,v 68,v 69,v 70,v 71,v 72,v 73,v 74,v 75,v 76,v 77,v 78,v 79,v 80,v 81,v 82,v 83,v 84,v 85,v 86,v 87,v 88,v 89,v 90,v 91,v 92,v 93,v 94,v 95,v 96,v 97,v 98,v 99,v 100,v 101,v 102,v 103,v 104,v 105,v 106,v 107,v 108,v 109,v 110,v 111,v 112,v 113,v 114,v 115,v 116,v 117,v 118,v 119,v 120,v 121,v 122,v 123,v 124,v 125,v 126,v 127,v 128,v 129,v 130,v 131,v 132,v 133,v 134,v 135,v 136,v 137,v 138]:=e.trans rfl
 rw[fv 0 _ h0,fv 3 _ h3] at q
 rw[q]
set_option maxRecDepth 100000 in
set_option maxHeartbeats 8000000 in
theorem mI (hK:2≤c.K) (hT:dh Try.prog c tW tX R eB up k q Ur (G (b₁.at (a₁.put ((ops₁[i₁]?).bind (·.dst)) (.tuple #[])) (.inRegion ops₁ rest₁ :: k₁)) cs₁)) {s:Bool} {g:Goroutine} (hg:kT1 c b₁ a₁ ops₁ i₁ rest₁ k₁ cs₁ s g) :
  yT1 Try.prog c tW (yLa Try.prog c tW (dh Try.prog c tW tX R eB up k q Ur)) (kHd c b₁ a₁ ops₁ i₁ rest₁ k₁ cs₁) s g:=by
 obtain ⟨v,rfl⟩:=hg
 simp only[A7,k27,kA,jK,k22,dD,bh,Try.f89,Option.getD_some]
 refine ⟨⟨_,_,rfl⟩,fun w W m hk hm hsf hok hq hm1 _=>?_⟩
 refine ⟨.s1 s,W,m,_,_,_,.t1,stepG_nanotime rfl rfl (by k_ne) rfl Try.func95 uf ug tA tC uv,bC.later hm,fun e he=>by simp at he,rfl,rfl,?_⟩
 generalize ((w.os.mono+w.tick:Nat):Int)=tv
 refine aO 60 rfl fun w hF=>?_
 clear hk hm hsf hok hq hm1
 walk_nrm
 repeat w_go aa
 refine Goes.stop (fun w₁ h₁=>⟨rfl,?_⟩)
 exact jB hK hT (pn _ rfl rfl rfl rfl rfl)
set_option maxRecDepth 100000 in
set_option maxHeartbeats 8000000 in
theorem mS (hK:2≤c.K) (hT:dh Try.prog c tW tX R eB up k q Ur (G (b₁.at (a₁.put ((ops₁[i₁]?).bind (·.dst)) (.tuple #[])) (.inRegion ops₁ rest₁ :: k₁)) cs₁)) {o:Wd} {a s:Bool} {it:Nat} (hl:o.l=0) (hs:o.s=0) {g:Goroutine} (hg:kC2 c b₁ a₁ ops₁ i₁ rest₁ k₁ cs₁ o a s it g) :
  yC2 Try.prog c tW (yLa Try.prog c tW (dh Try.prog c tW tX R eB up k q Ur)) (kHd c b₁ a₁ ops₁ i₁ rest₁ k₁ cs₁) o a s it g:=by
 obtain ⟨ho,ws,v,rfl⟩:=hg
 simp only[vI,jK,k22,dD,bh,Try.f89,Option.getD_some]
 refine ⟨⟨_,_,rfl⟩,fun w W m hk hm hsf hok hq hm1 _=>?_⟩
 by_cases hW:W=o
 ·subst hW
  have h5:bits .and .i32 W.enc 5=0:=by
   have:=iQ hok (by omega)
   rw[hl,hs] at this;exact this
  refine ⟨.le,_,m,_,_,_,.c2l hl hs,stepG_cas_hit rfl rfl (by k_ne) rfl Try.func88 c9 cX dc .i32 c8 rfl rfl rfl hm.1 (bq hk 0),bC.st hk hK hm _,eK (o:=0) (by omega) (fun e he=>by simpa using he),rfl,.inl ⟨rfl,aO 60 rfl fun w hF=>?_⟩⟩
  clear hk hm hsf hok hq hm1
  walk_nrm
  repeat w_go aa
  exact goes_le (by omega) (xg hT (sO _ rfl rfl) _ hF)
 ·refine ⟨.r3 a s it,W,m,_,_,_,.c2m hW,stepG_cas_miss rfl rfl (by k_ne) rfl Try.func88 c9 cX dc .i32 c8 rfl rfl rfl hm.1 (bq hk 0) (fun e=>hW (gp hok ho.1 e)),bC.same hm,fun e he=>?_,rfl,.inr (.inr (.inr ⟨rfl,aO 60 rfl fun w hF=>?_⟩))⟩
  ·simp at he
   subst he
   exact .inl ⟨0,false,by omega,rfl⟩
  clear hk hm hsf hok hq hm1
  walk_nrm
  repeat w_go aa
  refine Goes.stop (fun w₁ h₁=>⟨rfl,?_⟩)
  exact lC (pI _ rfl rfl rfl rfl rfl rfl rfl)
set_option maxRecDepth 100000 in
set_option maxHeartbeats 8000000 in
theorem mY (hK:2≤c.K) (hT:dh Try.prog c tW tX R eB up k q Ur (G (b₁.at (a₁.put ((ops₁[i₁]?).bind (·.dst)) (.tuple #[])) (.inRegion ops₁ rest₁ :: k₁)) cs₁)) {o:Wd} {a s:Bool} {it:Nat} (hl:o.l=1) (hs:o.s=0) {g:Goroutine} (hg:kC2 c b₁ a₁ ops₁ i₁ rest₁ k₁ cs₁ o a s it g) :
  yC2 Try.prog c tW (yLa Try.prog c tW (dh Try.prog c tW tX R eB up k q Ur)) (kHd c b₁ a₁ ops₁ i₁ rest₁ k₁ cs₁) o a s it g:=by
 obtain ⟨ho,ws,v,rfl⟩:=hg
 simp only[vI,jK,k22,dD,bh,Try.f89,Option.getD_some]
 refine ⟨⟨_,_,rfl⟩,fun w W m hk hm hsf hok hq hm1 _=>?_⟩
 by_cases hW:W=o
 ·subst hW
  have h5:bits .and .i32 W.enc 5=1:=by
   have:=iQ hok (by omega)
   rw[hl,hs] at this;exact this
  have hn:¬(W.l=0∧W.s=0):=by omega
  by_cases hw:ws=0
  ·subst hw
   refine ⟨.t1 s,_,m,_,_,_,.c2t hn,stepG_cas_hit rfl rfl (by k_ne) rfl Try.func88 c9 cX dc .i32 c8 rfl rfl rfl hm.1 (bq hk 0),bC.st hk hK hm _,eK (o:=0) (by omega) (fun e he=>by simpa using he),rfl,.inr (.inl ⟨rfl,aO 80 rfl fun w hF=>?_⟩)⟩
   clear hk hm hsf hok hq hm1 hn
   walk_nrm
   repeat w_go aa
   refine Goes.stop (fun w₁ h₁=>⟨rfl,?_⟩)
   exact mI hK hT (rQ _ rfl rfl rfl)
  ·have hw1:decide (ws=0)=false:=decide_eq_false hw
   have hw2:(ws==0)=false:=by simpa using hw
   have hw3:(ws != 0)=true:=by simpa using hw
   refine ⟨.s1 s,_,m,_,_,_,.c2s hn,stepG_cas_hit rfl rfl (by k_ne) rfl Try.func88 c9 cX dc .i32 c8 rfl rfl rfl hm.1 (bq hk 0),bC.st hk hK hm _,eK (o:=0) (by omega) (fun e he=>by simpa using he),rfl,.inr (.inr (.inl ⟨rfl,aO 80 rfl fun w hF=>?_⟩))⟩
   clear hk hm hsf hok hq hm1 hn
   walk_nrm
   repeat w_go aa
   refine Goes.stop (fun w₁ h₁=>⟨rfl,?_⟩)
   exact jB hK hT (pn _ rfl rfl rfl rfl rfl)
 ·refine ⟨.r3 a s it,W,m,_,_,_,.c2m hW,stepG_cas_miss rfl rfl (by k_ne) rfl Try.func88 c9 cX dc .i32 c8 rfl rfl rfl hm.1 (bq hk 0) (fun e=>hW (gp hok ho.1 e)),bC.same hm,fun e he=>?_,rfl,.inr (.inr (.inr ⟨rfl,aO 60 rfl fun w hF=>?_⟩))⟩
  ·simp at he
   subst he
   exact .inl ⟨0,false,by omega,rfl⟩
  clear hk hm hsf hok hq hm1
  walk_nrm
  repeat w_go aa
  refine Goes.stop (fun w₁ h₁=>⟨rfl,?_⟩)
  exact lC (pI _ rfl rfl rfl rfl rfl rfl rfl)
set_option maxRecDepth 100000 in
set_option maxHeartbeats 8000000 in
theorem wC (hK:2≤c.K) (hT:dh Try.prog c tW tX R eB up k q Ur (G (b₁.at (a₁.put ((ops₁[i₁]?).bind (·.dst)) (.tuple #[])) (.inRegion ops₁ rest₁ :: k₁)) cs₁)) {o:Wd} {a s:Bool} {it:Nat} (hl:o.l=0) (hs:o.s=1) {g:Goroutine} (hg:kC2 c b₁ a₁ ops₁ i₁ rest₁ k₁ cs₁ o a s it g) :
  yC2 Try.prog c tW (yLa Try.prog c tW (dh Try.prog c tW tX R eB up k q Ur)) (kHd c b₁ a₁ ops₁ i₁ rest₁ k₁ cs₁) o a s it g:=by
 obtain ⟨ho,ws,v,rfl⟩:=hg
 simp only[vI,jK,k22,dD,bh,Try.f89,Option.getD_some]
 refine ⟨⟨_,_,rfl⟩,fun w W m hk hm hsf hok hq hm1 _=>?_⟩
 by_cases hW:W=o
 ·subst hW
  have h5:bits .and .i32 W.enc 5=4:=by
   have:=iQ hok (by omega)
   rw[hl,hs] at this;exact this
  have hn:¬(W.l=0∧W.s=0):=by omega
  by_cases hw:ws=0
  ·subst hw
   refine ⟨.t1 s,_,m,_,_,_,.c2t hn,stepG_cas_hit rfl rfl (by k_ne) rfl Try.func88 c9 cX dc .i32 c8 rfl rfl rfl hm.1 (bq hk 0),bC.st hk hK hm _,eK (o:=0) (by omega) (fun e he=>by simpa using he),rfl,.inr (.inl ⟨rfl,aO 80 rfl fun w hF=>?_⟩)⟩
   clear hk hm hsf hok hq hm1 hn
   walk_nrm
   repeat w_go aa
   refine Goes.stop (fun w₁ h₁=>⟨rfl,?_⟩)
   exact mI hK hT (rQ _ rfl rfl rfl)
  ·have hw1:decide (ws=0)=false:=decide_eq_false hw
   have hw2:(ws==0)=false:=by simpa using hw
   have hw3:(ws != 0)=true:=by simpa using hw
   refine ⟨.s1 s,_,m,_,_,_,.c2s hn,stepG_cas_hit rfl rfl (by k_ne) rfl Try.func88 c9 cX dc .i32 c8 rfl rfl rfl hm.1 (bq hk 0),bC.st hk hK hm _,eK (o:=0) (by omega) (fun e he=>by simpa using he),rfl,.inr (.inr (.inl ⟨rfl,aO 80 rfl fun w hF=>?_⟩))⟩
   clear hk hm hsf hok hq hm1 hn
   walk_nrm
   repeat w_go aa
   refine Goes.stop (fun w₁ h₁=>⟨rfl,?_⟩)
   exact jB hK hT (pn _ rfl rfl rfl rfl rfl)
 ·refine ⟨.r3 a s it,W,m,_,_,_,.c2m hW,stepG_cas_miss rfl rfl (by k_ne) rfl Try.func88 c9 cX dc .i32 c8 rfl rfl rfl hm.1 (bq hk 0) (fun e=>hW (gp hok ho.1 e)),bC.same hm,fun e he=>?_,rfl,.inr (.inr (.inr ⟨rfl,aO 60 rfl fun w hF=>?_⟩))⟩
  ·simp at he
   subst he
   exact .inl ⟨0,false,by omega,rfl⟩
  clear hk hm hsf hok hq hm1
  walk_nrm
  repeat w_go aa
  refine Goes.stop (fun w₁ h₁=>⟨rfl,?_⟩)
  exact lC (pI _ rfl rfl rfl rfl rfl rfl rfl)
set_option maxRecDepth 100000 in
set_option maxHeartbeats 8000000 in
theorem yA (hK:2≤c.K) (hT:dh Try.prog c tW tX R eB up k q Ur (G (b₁.at (a₁.put ((ops₁[i₁]?).bind (·.dst)) (.tuple #[])) (.inRegion ops₁ rest₁ :: k₁)) cs₁)) {o:Wd} {a s:Bool} {it:Nat} (hl:o.l=1) (hs:o.s=1) {g:Goroutine} (hg:kC2 c b₁ a₁ ops₁ i₁ rest₁ k₁ cs₁ o a s it g) :
  yC2 Try.prog c tW (yLa Try.prog c tW (dh Try.prog c tW tX R eB up k q Ur)) (kHd c b₁ a₁ ops₁ i₁ rest₁ k₁ cs₁) o a s it g:=by
 obtain ⟨ho,ws,v,rfl⟩:=hg
 simp only[vI,jK,k22,dD,bh,Try.f89,Option.getD_some]
 refine ⟨⟨_,_,rfl⟩,fun w W m hk hm hsf hok hq hm1 _=>?_⟩
 by_cases hW:W=o
 ·subst hW
  have h5:bits .and .i32 W.enc 5=5:=by
   have:=iQ hok (by omega)
   rw[hl,hs] at this;exact this
  have hn:¬(W.l=0∧W.s=0):=by omega
  by_cases hw:ws=0
  ·subst hw
   refine ⟨.t1 s,_,m,_,_,_,.c2t hn,stepG_cas_hit rfl rfl (by k_ne) rfl Try.func88 c9 cX dc .i32 c8 rfl rfl rfl hm.1 (bq hk 0),bC.st hk hK hm _,eK (o:=0) (by omega) (fun e he=>by simpa using he),rfl,.inr (.inl ⟨rfl,aO 80 rfl fun w hF=>?_⟩)⟩
   clear hk hm hsf hok hq hm1 hn
   walk_nrm
   repeat w_go aa
   refine Goes.stop (fun w₁ h₁=>⟨rfl,?_⟩)
   exact mI hK hT (rQ _ rfl rfl rfl)
  ·have hw1:decide (ws=0)=false:=decide_eq_false hw
   have hw2:(ws==0)=false:=by simpa using hw
   have hw3:(ws != 0)=true:=by simpa using hw
   refine ⟨.s1 s,_,m,_,_,_,.c2s hn,stepG_cas_hit rfl rfl (by k_ne) rfl Try.func88 c9 cX dc .i32 c8 rfl rfl rfl hm.1 (bq hk 0),bC.st hk hK hm _,eK (o:=0) (by omega) (fun e he=>by simpa using he),rfl,.inr (.inr (.inl ⟨rfl,aO 80 rfl fun w hF=>?_⟩))⟩
   clear hk hm hsf hok hq hm1 hn
   walk_nrm
   repeat w_go aa
   refine Goes.stop (fun w₁ h₁=>⟨rfl,?_⟩)
   exact jB hK hT (pn _ rfl rfl rfl rfl rfl)
 ·refine ⟨.r3 a s it,W,m,_,_,_,.c2m hW,stepG_cas_miss rfl rfl (by k_ne) rfl Try.func88 c9 cX dc .i32 c8 rfl rfl rfl hm.1 (bq hk 0) (fun e=>hW (gp hok ho.1 e)),bC.same hm,fun e he=>?_,rfl,.inr (.inr (.inr ⟨rfl,aO 60 rfl fun w hF=>?_⟩))⟩
  ·simp at he
   subst he
   exact .inl ⟨0,false,by omega,rfl⟩
  clear hk hm hsf hok hq hm1
  walk_nrm
  repeat w_go aa
  refine Goes.stop (fun w₁ h₁=>⟨rfl,?_⟩)
  exact lC (pI _ rfl rfl rfl rfl rfl rfl rfl)
end
end Cs
namespace Cs
open Go.Conc Go.RowKit Go.Conc.Lib Go.ConcR.Gen Go.ConcN.Gen
open Go.ConcR (KK WgAt wgBlock stA smA rd wr mk DC0)
open Go.ConcM (OsLater goes_pad goes_le)
noncomputable def kO6:Array Oper:=match m4 with | .cond _ (.seq (.seq (.region _ o _) _) _) _=>o | _=>#[]
noncomputable def Ca:Code:=match m4 with | .cond _ (.seq (.seq _ c) _) _=>c | _=>.skip
noncomputable def k8:Code:=match m4 with | .cond _ (.seq _ c) _=>c | _=>.skip
section
variable (c:Cst) (b₁:Frame) (a₁:Act) (ops₁:Array Oper) (i₁:Nat) (rest₁:List Nat) (k₁:List Item) (cs₁:List Frame)
def kC1 (o:Wd) (it:Nat) (g:Goroutine):Prop:=∃(ws:Int) (v:Nat→Value),g=G ((base 89).at ⟨#[.pointer (some ⟨c.Fd,0,none⟩),v 1,.int .i64 ws,.bool false,.bool false,.int .i64 (it:Nat),v 6,v 7,v 8,v 9,v 10,v 11,v 12,v 13,v 14,v 15,v 16,v 17,v 18,v 19,v 20,v 21,v 22,v 23,v 24,v 25,v 26,v 27,v 28,v 29,v 30,v 31,v 32,.bool true,v 34,v 35,.pointer (some ⟨c.Fd,0,none⟩),.int .i32 o.enc,v 38,.int .i32 ({ o with w:=1 }:Wd).enc,v 40,v 41,v 42,v 43,v 44,v 45,v 46,v 47,v 48,v 49,v 50,v 51,v 52,v 53,v 54,v 55,v 56,v 57,v 58,v 59,v 60,v 61,v 62,v 63,v 64,v 65,v 66,v 67,v 68,v 69,v 70,v 71,v 72,v 73,v 74,v 75,v 76,v 77,v 78,v 79,v 80,v 81,v 82,v 83,v 84,v 85,v 86,v 87,v 88,v 89,v 90,v 91,v 92,v 93,v 94,v 95,v 96,v 97,v 98,v 99,v 100,v 101,v 102,v 103,v 104,v 105,v 106,v 107,v 108,v 109,v 110,v 111,v 112,v 113,v 114,v 115,v 116,v 117,v 118,v 119,v 120,v 121,v 122,v 123,v 124,v 125,v 126,v 127,v 128,v 129,v 130,v 131,v 132,v 133,v 134,v 135,v 136,v 137,v 138],[]⟩ [.inRegion kO6 [19,20],.code Ca,.code k8,.code dD,.inBlock 1,.inLoop bh,.inBlock 0,.code cy]) (b₁.at a₁ (.inRegion ops₁ (i₁ :: rest₁) :: k₁) :: cs₁)
end
section
variable {c:Cst} {tW:TypeId} {b₁:Frame} {a₁:Act} {ops₁:Array Oper} {i₁:Nat} {rest₁:List Nat} {k₁:List Item} {cs₁:List Frame}
set_option maxRecDepth 100000 in
theorem BZ {o:Wd} {it:Nat} {ws:Int} (l:Array Value) (hl:l.size=139) (h0:l[0]? = some (.pointer (some ⟨c.Fd,0,none⟩))) (h2:l[2]? = some (.int .i64 ws)) (h3:l[3]? = some (.bool false)) (h4:l[4]? = some (.bool false)) (h5:l[5]? = some (.int .i64 (it:Nat))) (h33:l[33]? = some (.bool true)) (h36:l[36]? = some (.pointer (some ⟨c.Fd,0,none⟩))) (h37:l[37]? = some (.int .i32 o.enc)) (h39:l[39]? = some (.int .i32 ({ o with w:=1 }:Wd).enc)) :
  kC1 c b₁ a₁ ops₁ i₁ rest₁ k₁ cs₁ o it (G ((base 89).at ⟨l,[]⟩ [.inRegion kO6 [19,20],.code Ca,.code k8,.code dD,.inBlock 1,.inLoop bh,.inBlock 0,.code cy]) (b₁.at a₁ (.inRegion ops₁ (i₁ :: rest₁) :: k₁) :: cs₁)):=by
 have e:=bU l 139 hl
 generalize hv:(fun i=>l.getD i undef)=v at e
 have fv:∀i x,l[i]? = some x→v i=x:=fun i x hx=>by rw[←hv];simp[Array.getD_eq_getD_getElem?,hx]
 refine ⟨ws,v,?_⟩
 have q:l=#[v 0,v 1,v 2,v 3,v 4,v 5,v 6,v 7,v 8,v 9,v 10,v 11,v 12,v 13,v 14,v 15,v 16,v 17,v 18,v 19,v 20,v 21,v 22,v 23,v 24,v 25,v 26,v 27,v 28,v 29,v 30,v 31,v 32,v 33,v 34,v 35,v 36,v 37,v 38,v 39,v 40,v 41,v 42,v 43,v 44,v 45,v 46,v 47,v 48,v 49,v 50,v 51,v 52,v 53,v 54,v 55,v 56,v 57,v 58,v 59,v 60,v 61,v 62,v 63,v 64,v 65,v 66,v 67,v 68,v 69,v 70,v 71,v 72,v 73,v 74,v 75,v 76,v 77,v 78,v 79,v 80,v 81,v 82,v 83,v 84,v 85,v 86,v 87,v 88,v 89,v 90,v 91,v 92,v 93,v 94,v 95,v 96,v 97,v 98,v 99,v 100,v 101,v 102,v 103,v 104,v 105,v 106,v 107,v 108,v 109,v 110,v 111,v 112,v 113,v 114,v 115,v 116,v 117,v 118,v 119,v 120,v 121,v 122,v 123,v 124,v 125,v 126,v 127,v 128,v 129,v 130,v 131,v 132,v 133,v 134,v 135,v 136,v 137,v 138]:=e.trans rfl
 rw[fv 0 _ h0,fv 2 _ h2,fv 3 _ h3,fv 4 _ h4,fv 5 _ h5,fv 33 _ h33,fv 36 _ h36,fv 37 _ h37,fv 39 _ h39] at q
 rw[q]
set_option maxRecDepth 100000 in
set_option maxHeartbeats 8000000 in
theorem wv (hK:2≤c.K) {o:Wd} {it:Nat} (ho:o.ok) (hi:it<4) {g:Goroutine} (hg:kC1 c b₁ a₁ ops₁ i₁ rest₁ k₁ cs₁ o it g) :
  yC1 Try.prog c tW (kHd c b₁ a₁ ops₁ i₁ rest₁ k₁ cs₁) o it g:=by
 obtain ⟨ws,v,rfl⟩:=hg
 simp only[kO6,Ca,k8,m4,kHp,dD,bh,Try.f89,Option.getD_some]
 have eI:IntKind.i64.wrap ((it:Int)+1)=((it+1:Nat):Int):=by rw[IntKind.wrap_i64];omega
 refine ⟨⟨_,_,rfl⟩,fun w W m hk hm hsf hok hq hm1 _=>?_⟩
 by_cases hW:W=o
 ·subst hW
  refine ⟨.r1 true false it,{ W with w:=1 },m,_,_,_,.c1h,stepG_cas_hit rfl rfl (by k_ne) rfl Try.func88 c9 cX dc .i32 c8 rfl rfl rfl hm.1 (bq hk 0),bC.st hk hK hm _,eK (o:=0) (by omega) (fun e he=>by simpa using he),rfl,true,rfl,aO 80 rfl fun w hF=>?_⟩
  clear hk hm hsf hok hq hm1
  walk_nrm
  repeat w_go aa
  u_in aa hF
  rw[stepG_entry_pure (.tuple #[]) rfl rfl (by k_ne) rfl Try.func93 jF jX jQ jH]
  simp only[goes_go]
  refine ⟨by u_nil,?_⟩
  walk_nrm
  repeat w_go aa
  refine Goes.stop (fun w₁ h₁=>⟨rfl,?_⟩)
  exact jm (mj _ rfl rfl rfl rfl rfl rfl rfl)
 ·refine ⟨.r1 false false it,W,m,_,w,_,.c1m hW,stepG_cas_miss rfl rfl (by k_ne) rfl Try.func88 c9 cX dc .i32 c8 rfl rfl rfl hm.1 (bq hk 0) (fun e=>hW (gp hok ho e)),bC.same hm,fun e he=>?_,rfl,false,rfl,aO 80 rfl fun w hF=>?_⟩
  ·simp at he
   subst he
   exact .inl ⟨0,false,by omega,rfl⟩
  clear hk hm hsf hok hq hm1
  walk_nrm
  repeat w_go aa
  u_in aa hF
  rw[stepG_entry_pure (.tuple #[]) rfl rfl (by k_ne) rfl Try.func93 jF jX jQ jH]
  simp only[goes_go]
  refine ⟨by u_nil,?_⟩
  walk_nrm
  repeat w_go aa
  refine Goes.stop (fun w₁ h₁=>⟨rfl,?_⟩)
  exact jm (mj _ rfl rfl rfl rfl rfl rfl rfl)
end
end Cs
namespace Cs
open Go.Conc Go.RowKit Go.Conc.Lib Go.ConcR.Gen Go.ConcN.Gen
open Go.ConcR (KK WgAt wgBlock stA smA rd wr mk DC0)
open Go.ConcM (OsLater goes_pad goes_le)
section
variable {c:Cst} {tW tX:TypeId} {R:Nat→Array Value} {β:Type} {eB:β→Nat→Value} {up:β→Nat→β} {k q:Nat} {Ur:Goroutine→Prop}
variable {b₁:Frame} {a₁:Act} {ops₁:Array Oper} {i₁:Nat} {rest₁:List Nat} {k₁:List Item} {cs₁:List Frame}
theorem wX (hK:2≤c.K) (hT:dh Try.prog c tW tX R eB up k q Ur (G (b₁.at (a₁.put ((ops₁[i₁]?).bind (·.dst)) (.tuple #[])) (.inRegion ops₁ rest₁ :: k₁)) cs₁)) {o:Wd} {a s:Bool} {it:Nat} {g:Goroutine} (hg:kMd c b₁ a₁ ops₁ i₁ rest₁ k₁ cs₁ o a s it g) :
  ∀w,Ok3 c tW w→Goes Try.prog false (fun _ w=>Ok3 c tW w) DC0 (fun g _=>g.status=.running∧yC2 Try.prog c tW (yLa Try.prog c tW (dh Try.prog c tW tX R eB up k q Ur)) (kHd c b₁ a₁ ops₁ i₁ rest₁ k₁ cs₁) o a s it g) 80 g w:=by
 intro w hF
 obtain ⟨h1,h2,h3⟩:=hg.1.1
 have hx:=hg.1.2.2.1
 have hy:=hg.1.2.2.2.1
 obtain hl | hl:o.l=0∨o.l=1:=by omega
 ·obtain hs | hs:o.s=0∨o.s=1:=by omega
  ·rcases a with _ | _
   ·obtain rfl:s=false:=hy rfl
    exact aR (fun _ _ _ h=>h) (fun g w h=>⟨h.1,mS hK hT hl hs h.2⟩) (Da hl hs hg w hF)
   ·rcases s with _ | _
    ·exact aR (fun _ _ _ h=>h) (fun g w h=>⟨h.1,mS hK hT hl hs h.2⟩) (CX hl hs hg w hF)
    ·exact aR (fun _ _ _ h=>h) (fun g w h=>⟨h.1,mS hK hT hl hs h.2⟩) (Dy hl hs hg w hF)
  ·rcases a with _ | _
   ·obtain rfl:s=false:=hy rfl
    exact aR (fun _ _ _ h=>h) (fun g w h=>⟨h.1,wC hK hT hl hs h.2⟩) (Du hl hs hg w hF)
   ·exact absurd (hx rfl).2 (by omega)
 ·obtain hs | hs:o.s=0∨o.s=1:=by omega
  ·rcases a with _ | _
   ·obtain rfl:s=false:=hy rfl
    exact aR (fun _ _ _ h=>h) (fun g w h=>⟨h.1,mY hK hT hl hs h.2⟩) (C0 hl hs hg w hF)
   ·rcases s with _ | _
    ·exact aR (fun _ _ _ h=>h) (fun g w h=>⟨h.1,mY hK hT hl hs h.2⟩) (C4 hl hs hg w hF)
    ·exact aR (fun _ _ _ h=>h) (fun g w h=>⟨h.1,mY hK hT hl hs h.2⟩) (CB hl hs hg w hF)
  ·rcases a with _ | _
   ·obtain rfl:s=false:=hy rfl
    exact aR (fun _ _ _ h=>h) (fun g w h=>⟨h.1,yA hK hT hl hs h.2⟩) (Dt hl hs hg w hF)
   ·exact absurd (hx rfl).2 (by omega)
set_option maxRecDepth 100000 in
set_option maxHeartbeats 8000000 in
theorem Cz (hK:2≤c.K) (hT:dh Try.prog c tW tX R eB up k q Ur (G (b₁.at (a₁.put ((ops₁[i₁]?).bind (·.dst)) (.tuple #[])) (.inRegion ops₁ rest₁ :: k₁)) cs₁)) {o:Wd} {a s:Bool} {it:Nat} (hi:4≤it) {g:Goroutine} (hg:kSq c b₁ a₁ ops₁ i₁ rest₁ k₁ cs₁ o a s it g) :
  ySq Try.prog c tW (yLa Try.prog c tW (dh Try.prog c tW tX R eB up k q Ur)) (kHd c b₁ a₁ ops₁ i₁ rest₁ k₁ cs₁) o a s it g:=by
 obtain ⟨ho,ws,v,rfl⟩:=hg
 simp only[kO5,m4,kHp,Try.f89,Option.getD_some]
 refine ⟨⟨_,_,rfl⟩,fun w W m hk hm hsf hok hq hm1 _=>?_⟩
 refine ⟨.c2 o a s it,W,m,_,w,_,.sqn,stepG_canSpin_no rfl rfl (by k_ne) rfl Try.func92 iz iI iK iA (k:=.i64) (n:=(it:Int)) (by simp[Act.eval]) (by omega),bC.same hm,fun e he=>by simp at he,rfl,.inl ⟨rfl,aO 200 rfl fun w hF=>?_⟩⟩
 clear hk hm hsf hok hq hm1
 walk_nrm
 repeat w_go aa
 refine goes_le (n:=80) (by omega) (wX hK hT (l8 ho _ rfl rfl rfl rfl rfl rfl rfl) _ hF)
set_option maxRecDepth 100000 in
set_option maxHeartbeats 8000000 in
theorem AN (hK:2≤c.K) (hT:dh Try.prog c tW tX R eB up k q Ur (G (b₁.at (a₁.put ((ops₁[i₁]?).bind (·.dst)) (.tuple #[])) (.inRegion ops₁ rest₁ :: k₁)) cs₁)) {o:Wd} {a s:Bool} {it:Nat} (hi:it<4) {g:Goroutine} (hg:kSq c b₁ a₁ ops₁ i₁ rest₁ k₁ cs₁ o a s it g) :
  ySq Try.prog c tW (yLa Try.prog c tW (dh Try.prog c tW tX R eB up k q Ur)) (kHd c b₁ a₁ ops₁ i₁ rest₁ k₁ cs₁) o a s it g:=by
 obtain ⟨ho,ws,v,rfl⟩:=hg
 simp only[kO5,m4,kHp,Try.f89,Option.getD_some]
 refine ⟨⟨_,_,rfl⟩,fun w W m hk hm hsf hok hq hm1 _=>?_⟩
 have eI:IntKind.i64.wrap ((it:Int)+1)=((it+1:Nat):Int):=by rw[IntKind.wrap_i64];omega
 have h2:=xR ho.1 (by have:=ho.2.1;omega)
 have hh:o.enc / 8=(o.q:Int):=zx ho.1
 rcases hsp:w.spins with _ | _
 ·refine ⟨.c2 o a s it,W,m,_,w.asked,_,.sqn,(stepG_canSpin_ask rfl rfl (by k_ne) rfl Try.func92 iz iI iK iA (k:=.i64) (n:=(it:Int)) (by simp[Act.eval]) (by omega)).trans (by rw[hsp]),bC.asked hm,fun e he=>by simp at he,rfl,.inl ⟨rfl,aO 200 rfl fun w hF=>?_⟩⟩
  clear hsp
  clear hk hm hsf hok hq hm1
  walk_nrm
  repeat w_go aa
  refine goes_le (n:=80) (by omega) (wX hK hT (l8 ho _ rfl rfl rfl rfl rfl rfl rfl) _ hF)
 ·rcases a with _ | _
  ·by_cases hw:o.w=0
   ·rw[hw] at h2
    by_cases hq0:o.q=0
    ·rw[hq0] at hh
     refine ⟨.r1 false s it,W,m,_,w.asked,_,.sqs hi,(stepG_canSpin_ask rfl rfl (by k_ne) rfl Try.func92 iz iI iK iA (k:=.i64) (n:=(it:Int)) (by simp[Act.eval]) (by omega)).trans (by rw[hsp]),bC.asked hm,fun e he=>by simp at he,rfl,.inr (.inr ⟨rfl,aO 200 rfl fun w hF=>?_⟩)⟩
     clear hsp
     clear hk hm hsf hok hq hm1
     walk_nrm
     repeat w_go aa
     u_in aa hF
     rw[stepG_entry_pure (.tuple #[]) rfl rfl (by k_ne) rfl Try.func93 jF jX jQ jH]
     simp only[goes_go]
     refine ⟨by u_nil,?_⟩
     walk_nrm
     repeat w_go aa
     refine Goes.stop (fun w₁ h₁=>⟨rfl,?_⟩)
     exact jm (mj _ rfl rfl rfl rfl rfl rfl rfl)
    ·have hn0:¬((o.q:Int)=0):=by omega
     have hd0:decide ((o.q:Int)=0)=false:=decide_eq_false hn0
     have hb0:((o.q:Int)==0)=false:=by simpa using hn0
     have hc0:((o.q:Int) != 0)=true:=by simpa using hn0
     obtain rfl:s=false:=ho.2.2.2.1 rfl
     refine ⟨.c1 o it,W,m,_,w.asked,_,.sqc hi hw hq0,(stepG_canSpin_ask rfl rfl (by k_ne) rfl Try.func92 iz iI iK iA (k:=.i64) (n:=(it:Int)) (by simp[Act.eval]) (by omega)).trans (by rw[hsp]),bC.asked hm,fun e he=>by simp at he,rfl,.inr (.inl ⟨rfl,aO 200 rfl fun w hF=>?_⟩)⟩
     have hor:=or2 ho.1 (by have:=ho.2.1;omega)
     generalize hW1:({ o with w:=1 }:Wd).enc=zz at hor
     clear hsp hk hm hsf hok hq hm1
     walk_nrm
     repeat w_go aa
     refine Goes.stop (fun w₁ h₁=>⟨rfl,?_⟩)
     subst hW1
     exact wv hK ho.1 hi (BZ _ rfl rfl rfl rfl rfl rfl rfl rfl rfl rfl)
   ·have hw1:o.w=1:=by have:=ho.1.2.1;omega
    rw[hw1] at h2
    refine ⟨.r1 false s it,W,m,_,w.asked,_,.sqs hi,(stepG_canSpin_ask rfl rfl (by k_ne) rfl Try.func92 iz iI iK iA (k:=.i64) (n:=(it:Int)) (by simp[Act.eval]) (by omega)).trans (by rw[hsp]),bC.asked hm,fun e he=>by simp at he,rfl,.inr (.inr ⟨rfl,aO 200 rfl fun w hF=>?_⟩)⟩
    clear hsp
    clear hk hm hsf hok hq hm1
    walk_nrm
    repeat w_go aa
    u_in aa hF
    rw[stepG_entry_pure (.tuple #[]) rfl rfl (by k_ne) rfl Try.func93 jF jX jQ jH]
    simp only[goes_go]
    refine ⟨by u_nil,?_⟩
    walk_nrm
    repeat w_go aa
    refine Goes.stop (fun w₁ h₁=>⟨rfl,?_⟩)
    exact jm (mj _ rfl rfl rfl rfl rfl rfl rfl)
  ·refine ⟨.r1 true s it,W,m,_,w.asked,_,.sqs hi,(stepG_canSpin_ask rfl rfl (by k_ne) rfl Try.func92 iz iI iK iA (k:=.i64) (n:=(it:Int)) (by simp[Act.eval]) (by omega)).trans (by rw[hsp]),bC.asked hm,fun e he=>by simp at he,rfl,.inr (.inr ⟨rfl,aO 200 rfl fun w hF=>?_⟩)⟩
   clear hsp
   clear hk hm hsf hok hq hm1
   walk_nrm
   repeat w_go aa
   u_in aa hF
   rw[stepG_entry_pure (.tuple #[]) rfl rfl (by k_ne) rfl Try.func93 jF jX jQ jH]
   simp only[goes_go]
   refine ⟨by u_nil,?_⟩
   walk_nrm
   repeat w_go aa
   refine Goes.stop (fun w₁ h₁=>⟨rfl,?_⟩)
   exact jm (mj _ rfl rfl rfl rfl rfl rfl rfl)
end
end Cs
end Go.Proofs.Ytpdemelchhkfaaa
