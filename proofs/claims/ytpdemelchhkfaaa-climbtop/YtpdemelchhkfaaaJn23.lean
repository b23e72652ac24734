import Derived.Test.YtpdemelchhkfaaaJn22
namespace Go.Proofs.Ytpdemelchhkfaaa
namespace Cs
open Go.Conc Go.RowKit Go.Conc.Lib Go.ConcR.Gen Go.ConcN.Gen
open Go.ConcR (KK WgAt wgBlock stA smA rd wr mk DC0)
open Go.ConcM (OsLater goes_pad goes_le)
noncomputable def kA:Code:=match jK with | .cond _ a _=>a | _=>.skip
noncomputable def BU:Array Oper:=match kA with | .seq _ (.seq _ (.seq _ (.seq _ (.seq _ (.seq (.region _ o _) _)))))=>o | _=>#[]
noncomputable def k30:Code:=match kA with | .seq _ (.seq _ (.seq _ (.seq _ (.seq _ (.seq _ c)))))=>c | _=>.skip
noncomputable def A3:Array Oper:=match k30 with | .seq (.seq _ (.cond _ (.seq _ (.seq _ (.seq _ (.seq (.region _ o _) _)))) _)) _=>o | _=>#[]
noncomputable def k37:Code:=match k30 with | .seq _ c=>c | _=>.skip
section
variable (c:Cst) (b₁:Frame) (a₁:Act) (ops₁:Array Oper) (i₁:Nat) (rest₁:List Nat) (k₁:List Item) (cs₁:List Frame)
def kA1 (d:Int) (g:Goroutine):Prop:=∃(v:Nat→Value),g=G ((base 89).at ⟨#[.pointer (some ⟨c.Fd,0,none⟩),v 1,v 2,v 3,v 4,v 5,v 6,v 7,v 8,v 9,v 10,v 11,v 12,v 13,v 14,v 15,v 16,v 17,v 18,v 19,v 20,v 21,v 22,v 23,v 24,v 25,v 26,v 27,v 28,v 29,v 30,v 31,v 32,v 33,v 34,v 35,v 36,v 37,v 38,v 39,v 40,v 41,v 42,v 43,v 44,v 45,v 46,v 47,v 48,v 49,v 50,v 51,v 52,v 53,v 54,v 55,v 56,v 57,v 58,v 59,v 60,v 61,v 62,v 63,v 64,v 65,v 66,v 67,v 68,v 69,v 70,v 71,v 72,v 73,v 74,v 75,v 76,v 77,v 78,v 79,v 80,v 81,v 82,v 83,v 84,v 85,v 86,v 87,v 88,v 89,v 90,v 91,v 92,v 93,v 94,v 95,v 96,v 97,v 98,v 99,v 100,v 101,v 102,v 103,v 104,v 105,v 106,v 107,v 108,v 109,v 110,v 111,v 112,v 113,v 114,v 115,v 116,v 117,v 118,v 119,v 120,v 121,v 122,v 123,v 124,v 125,v 126,v 127,.pointer (some ⟨c.Fd,0,none⟩),.int .i32 d,v 130,v 131,v 132,v 133,v 134,v 135,v 136,v 137,v 138],[]⟩ [.inRegion A3 [4],.code (.exit 0),.code k37,.inBlock 1,.inLoop bh,.inBlock 0,.code cy]) (b₁.at a₁ (.inRegion ops₁ (i₁ :: rest₁) :: k₁) :: cs₁)
def kR2 (s:Bool) (g:Goroutine):Prop:=∃(ws:Int) (v:Nat→Value),g=G ((base 89).at ⟨#[.pointer (some ⟨c.Fd,0,none⟩),v 1,.int .i64 ws,.bool s,v 4,v 5,v 6,v 7,v 8,v 9,v 10,v 11,v 12,v 13,v 14,v 15,v 16,v 17,v 18,v 19,v 20,v 21,v 22,v 23,v 24,v 25,v 26,v 27,v 28,v 29,v 30,v 31,v 32,v 33,v 34,v 35,v 36,v 37,v 38,v 39,v 40,v 41,v 42,v 43,v 44,v 45,v 46,v 47,v 48,v 49,v 50,v 51,v 52,v 53,v 54,v 55,v 56,v 57,v 58,v 59,v 60,v 61,v 62,v 63,v 64,v 65,v 66,v 67,v 68,v 69,v 70,v 71,v 72,v 73,v 74,v 75,v 76,v 77,v 78,v 79,v 80,v 81,v 82,v 83,v 84,v 85,v 86,v 87,v 88,v 89,v 90,v 91,v 92,v 93,v 94,v 95,v 96,v 97,v 98,v 99,v 100,v 101,v 102,.pointer (some ⟨c.Fd,0,none⟩),v 104,v 105,v 106,v 107,v 108,v 109,v 110,v 111,v 112,v 113,v 114,v 115,v 116,v 117,v 118,v 119,v 120,v 121,v 122,v 123,v 124,v 125,v 126,v 127,v 128,v 129,v 130,v 131,v 132,v 133,v 134,v 135,v 136,v 137,v 138],[]⟩ [.inRegion BU [3,4],.code k30,.inBlock 1,.inLoop bh,.inBlock 0,.code cy]) (b₁.at a₁ (.inRegion ops₁ (i₁ :: rest₁) :: k₁) :: cs₁)
end
section
variable {c:Cst} {b₁:Frame} {a₁:Act} {ops₁:Array Oper} {i₁:Nat} {rest₁:List Nat} {k₁:List Item} {cs₁:List Frame}
set_option maxRecDepth 100000 in
theorem rX {d:Int} (l:Array Value) (hl:l.size=139) (h0:l[0]? = some (.pointer (some ⟨c.Fd,0,none⟩))) (h128:l[128]? = some (.pointer (some ⟨c.Fd,0,none⟩))) (h129:l[129]? = some (.int .i32 d)) :
  kA1 c b₁ a₁ ops₁ i₁ rest₁ k₁ cs₁ d (G ((base 89).at ⟨l,[]⟩ [.inRegion A3 [4],.code (.exit 0),.code k37,.inBlock 1,.inLoop bh,.inBlock 0,.code cy]) (b₁.at a₁ (.inRegion ops₁ (i₁ :: rest₁) :: k₁) :: cs₁)):=by
 have e:=bU l 139 hl
 generalize hv:(fun i=>l.getD i undef)=v at e
 have fv:∀i x,l[i]? = some x→v i=x:=fun i x hx=>by rw[←hv];simp[Array.getD_eq_getD_getElem?,hx]
 refine ⟨v,?_⟩
 have q:l=#[v 0,v 1,v 2,v 3,v 4,v 5,v 6,v 7,v 8,v 9,v 10,v 11,v 12,v 13,v 14,v 15,v 16,v 17,v 18,v 19,v 20,v 21,v 22,v 23,v 24,v 25,v 26,v 27,v 28,v 29,v 30,v 31,v 32,v 33,v 34,v 35,v 36,v 37,v 38,v 39,v 40,v 41,v 42,v 43,v 44,v 45,v 46,v 47,v 48,v 49,v 50,v 51,v 52,v 53,v 54,v 55,v 56,v 57,v 58,v 59,v 60,v 61,v 62,v 63,v 64,v 65,v 66,v 67,v 68,v 69,v 70,v 71,v 72,v 73,v 74,v 75,v 76,v 77,v 78,v 79,v 80,v 81,v 82,v 83,v 84,v 85,v 86,v 87,v 88,v 89,v 90,v 91,v 92,v 93,v 94,v 95,v 96,v 97,v 98,v 99,v 100,v 101,v 102,v 103,v 104,v 105,v 106,v 107,v 108,v 109,v 110,v 111,v 112,v 113,v 114,v 115,v 116,v 117,v 118,v 119,v 120,v 121,v 122,v 123,v 124,v 125,v 126,v 127,v 128,v 129,v 130,v 131,v 132,v 133,v 134,v 135,v 136,v 137,v 138]:=e.trans rfl
 rw[fv 0 _ h0,fv 128 _ h128,fv 129 _ h129] at q
 rw[q]
set_option maxRecDepth 100000 in
theorem wO {s:Bool} {ws:Int} (l:Array Value) (hl:l.size=139) (h0:l[0]? = some (.pointer (some ⟨c.Fd,0,none⟩))) (h2:l[2]? = some (.int .i64 ws)) (h3:l[3]? = some (.bool s)) (h103:l[103]? = some (.pointer (some ⟨c.Fd,0,none⟩))) :
  kR2 c b₁ a₁ ops₁ i₁ rest₁ k₁ cs₁ s (G ((base 89).at ⟨l,[]⟩ [.inRegion BU [3,4],.code k30,.inBlock 1,.inLoop bh,.inBlock 0,.code cy]) (b₁.at a₁ (.inRegion ops₁ (i₁ :: rest₁) :: k₁) :: cs₁)):=by
 have e:=bU l 139 hl
 generalize hv:(fun i=>l.getD i undef)=v at e
 have fv:∀i x,l[i]? = some x→v i=x:=fun i x hx=>by rw[←hv];simp[Array.getD_eq_getD_getElem?,hx]
 refine ⟨ws,v,?_⟩
 have q:l=#[v 0,v 1,v 2,v 3,v 4,v 5,v 6,v 7,v 8,v 9,v 10,v 11,v 12,v 13,v 14,v 15,v 16,v 17,v 18,v 19,v 20,v 21,v 22,v 23,v 24,v 25,v 26,v 27,v 28,v 29,v 30,v 31,v 32,v 33,v 34,v 35,v 36,v 37,v 38,v 39,v 40,v 41,v 42,v 43,v 44,v 45,v 46,v 47,v 48,v 49,v 50,v 51,v 52,v 53,v 54,v 55,v 56,v 57,v 58,v 59,v 60,v 61,v 62,v 63,v 64,v 65,v 66,v 67,v 68,v 69,v 70,v 71,v 72,v 73,v 74,v 75,v 76,v 77,v 78,v 79,v 80,v 81,v 82,v 83,v 84,v 85,v 86,v 87,v 88,v 89,v 90,v 91,v 92,v 93,v 94,v 95,v 96,v 97,v 98,v 99,v 100,v 101,v 102,v 103,v 104,v 105,v 106,v 107,v 108,v 109,v 110,v 111,v 112,v 113,v 114,v 115,v 116,v 117,v 118,v 119,v 120,v 121,v 122,v 123,v 124,v 125,v 126,v 127,v 128,v 129,v 130,v 131,v 132,v 133,v 134,v 135,v 136,v 137,v 138]:=e.trans rfl
 rw[fv 0 _ h0,fv 2 _ h2,fv 3 _ h3,fv 103 _ h103] at q
 rw[q]
end
section
variable {c:Cst} {tW tX:TypeId} {R:Nat→Array Value} {β:Type} {eB:β→Nat→Value} {up:β→Nat→β} {k q:Nat} {Ur:Goroutine→Prop}
variable {b₁:Frame} {a₁:Act} {ops₁:Array Oper} {i₁:Nat} {rest₁:List Nat} {k₁:List Item} {cs₁:List Frame}
theorem eK {c:Cst} {es:Array Event} {o:Nat} (ho:o<2) (h:∀e ∈ es,e=⟨.cell ⟨c.Fd,o,none⟩,false,true⟩∨e=⟨.cell ⟨c.Fd,o,none⟩,true,true⟩):∀e ∈ es,(∃o wr,o<2∧e=⟨.cell ⟨c.Fd,o,none⟩,wr,true⟩)∨e=mk .disable∨e=mk .enable :=
 fun e he=>(h e he).elim (fun x=>.inl ⟨o,false,ho,x⟩) (fun x=>.inl ⟨o,true,ho,x⟩)
set_option maxRecDepth 100000 in
set_option maxHeartbeats 8000000 in
theorem lR (hK:2≤c.K) (hT:dh Try.prog c tW tX R eB up k q Ur (G (b₁.at (a₁.put ((ops₁[i₁]?).bind (·.dst)) (.tuple #[])) (.inRegion ops₁ rest₁ :: k₁)) cs₁)) {o:Wd} {s:Bool} {d:Int} (hd:(d=-11∧(s=false∨o.q=1))∨(d=-7∧¬(s=false∨o.q=1))) {g:Goroutine} (hg:kA1 c b₁ a₁ ops₁ i₁ rest₁ k₁ cs₁ d g) :
  yA1 Try.prog c tW (yLa Try.prog c tW (dh Try.prog c tW tX R eB up k q Ur)) o s g:=by
 obtain ⟨v,rfl⟩:=hg
 simp only[A3,k30,kA,jK,k22,dD,bh,Try.f89,Option.getD_some]
 refine ⟨⟨_,_,rfl⟩,fun w W m hk hm hsf hok hq hm1 _=>?_⟩
 obtain ⟨s1,s2,s3,s4⟩:=hsf.2.2.2.1 rfl
 have on:∀{g':Goroutine},g'.status=.running→(∀w,Ok3 c tW w→Goes Try.prog false (fun _ w=>Ok3 c tW w) DC0 (fun g _=>g.status=.running∧yLe Try.prog c tW (yLa Try.prog c tW (dh Try.prog c tW tX R eB up k q Ur)) g) 60 g' w)→OnL Try.prog c tW (yLe Try.prog c tW (yLa Try.prog c tW (dh Try.prog c tW tX R eB up k q Ur))) g':=fun h1 h2=>aO 60 h1 h2
 rcases hd with ⟨rfl,hc⟩ | ⟨rfl,hc⟩
 ·have e:=B4 hok (by omega) s2 s1 s4
  refine ⟨.le,_,m,_,_,_,.a1e hc,(stepG_add_atomic rfl rfl (by k_ne) rfl Try.func90 ki kr j4 .i32 kD rfl rfl hm.1 (bq hk 0)).trans (by rw[e]),?_,eK (o:=0) (by omega) (fun e he=>by simpa using he),rfl,rfl,on rfl fun w hF=>?_⟩
  ·exact bC.st hk hK hm _
  clear hk hm hsf hok hq hm1 e
  walk_nrm
  repeat w_go aa
  exact goes_le (by omega) (xg hT (sO _ rfl rfl) _ hF)
 ·have e:=CJ hok (by omega) s2 s4
  refine ⟨.le,_,m,_,_,_,.a1k hc,(stepG_add_atomic rfl rfl (by k_ne) rfl Try.func90 ki kr j4 .i32 kD rfl rfl hm.1 (bq hk 0)).trans (by rw[e]),?_,eK (o:=0) (by omega) (fun e he=>by simpa using he),rfl,rfl,on rfl fun w hF=>?_⟩
  ·exact bC.st hk hK hm _
  clear hk hm hsf hok hq hm1 e
  walk_nrm
  repeat w_go aa
  exact goes_le (by omega) (xg hT (sO _ rfl rfl) _ hF)
end
end Cs
namespace Cs
open Go.Conc Go.RowKit Go.Conc.Lib Go.ConcR.Gen Go.ConcN.Gen
open Go.ConcR (KK WgAt wgBlock stA smA rd wr mk DC0)
open Go.ConcM (OsLater goes_pad goes_le)
section
variable {c:Cst} {tW tX:TypeId} {R:Nat→Array Value} {β:Type} {eB:β→Nat→Value} {up:β→Nat→β} {k q:Nat} {Ur:Goroutine→Prop}
variable {b₁:Frame} {a₁:Act} {ops₁:Array Oper} {i₁:Nat} {rest₁:List Nat} {k₁:List Item} {cs₁:List Frame}
set_option maxRecDepth 100000 in
set_option maxHeartbeats 8000000 in
theorem qz (hK:2≤c.K) (hT:dh Try.prog c tW tX R eB up k q Ur (G (b₁.at (a₁.put ((ops₁[i₁]?).bind (·.dst)) (.tuple #[])) (.inRegion ops₁ rest₁ :: k₁)) cs₁)) {s:Bool} {g:Goroutine} (hg:kR2 c b₁ a₁ ops₁ i₁ rest₁ k₁ cs₁ s g) :
  yR2 Try.prog c tW (yLa Try.prog c tW (dh Try.prog c tW tX R eB up k q Ur)) (kHd c b₁ a₁ ops₁ i₁ rest₁ k₁ cs₁) s g:=by
 obtain ⟨ws,v,rfl⟩:=hg
 simp only[BU,k30,kA,jK,k22,dD,bh,Try.f89,Option.getD_some]
 refine ⟨⟨_,_,rfl⟩,fun w W m hk hm hsf hok hq hm1 _=>?_⟩
 by_cases hs:W.s=1
 ·obtain ⟨s2,s3,s4⟩:=hsf.2.1 rfl hs
  have h4:bits .and .i32 W.enc 4=4:=by have:=lf hok (by omega);rw[hs] at this;exact this
  have h3:bits .and .i32 W.enc 3=0:=by have:=D3 hok (by omega);rw[s2,s3] at this;exact this
  have hh:W.enc / 8=(W.q:Int):=zx hok
  refine ⟨.a1 W s,W,m,_,w,_,.r2h hs,cC rfl rfl (by k_ne) rfl rfl hm.1 xz,bC.same hm,fun e he=>by simp at he,rfl,.inl ⟨W,s,rfl,?_⟩⟩
  have hn0:¬((W.q:Int)=0):=by omega
  have hd0:decide ((W.q:Int)=0)=false:=decide_eq_false hn0
  have hb0:((W.q:Int)==0)=false:=by simpa using hn0
  rcases s with _ | _
  ·refine aO 80 rfl fun w hF=>?_
   clear hk hm hsf hok hq hm1
   walk_nrm
   repeat w_go aa
   refine Goes.stop (fun w₁ h₁=>⟨rfl,?_⟩)
   exact lR hK hT (.inl ⟨rfl,.inl rfl⟩) (rX _ rfl rfl rfl rfl)
  ·by_cases hq1:W.q=1
   ·rw[hq1] at hh hd0 hb0
    refine aO 80 rfl fun w hF=>?_
    clear hk hm hsf hok hq hm1
    walk_nrm
    repeat w_go aa
    refine Goes.stop (fun w₁ h₁=>⟨rfl,?_⟩)
    exact lR hK hT (.inl ⟨rfl,.inr hq1⟩) (rX _ rfl rfl rfl rfl)
   ·have hn1:¬((W.q:Int)=1):=by omega
    have hd1:decide ((W.q:Int)=1)=false:=decide_eq_false hn1
    have hb1:((W.q:Int)==1)=false:=by simpa using hn1
    refine aO 80 rfl fun w hF=>?_
    clear hk hm hsf hok hq hm1
    walk_nrm
    repeat w_go aa
    refine Goes.stop (fun w₁ h₁=>⟨rfl,?_⟩)
    exact lR hK hT (.inr ⟨rfl,fun x=>x.elim (fun y=>by cases y) hq1⟩) (rX _ rfl rfl rfl rfl)
 ·have hs0:W.s=0:=by have:=hok.2.2;omega
  have hw:=hsf.2.2.1 rfl hs0
  have h4:bits .and .i32 W.enc 4=0:=by have:=lf hok (by omega);rw[hs0] at this;exact this
  have ho:kY W true s 0:=⟨hok,hq,fun _=>⟨hw,hs0⟩,fun e=>(by cases e),by omega⟩
  refine ⟨_,W,m,_,w,_,.r2n hs0,cC rfl rfl (by k_ne) rfl rfl hm.1 xz,bC.same hm,fun e he=>by simp at he,(iO _ _ _ _).symm,.inr ⟨W,true,s,0,rfl,aO 60 rfl fun w hF=>?_⟩⟩
  clear hk hm hsf hok hq hm1
  walk_nrm
  repeat w_nl aa
  u_c stepG_inLoop aa hF
  refine Goes.stop (fun w₁ h₁=>⟨rfl,?_⟩)
  exact ox ho _ rfl rfl rfl rfl rfl rfl rfl
end
end Cs
namespace Cs
open Go.Conc Go.RowKit Go.Conc.Lib Go.ConcR.Gen Go.ConcN.Gen
open Go.ConcR (KK WgAt wgBlock stA smA rd wr mk DC0)
open Go.ConcM (OsLater goes_pad goes_le)
noncomputable def BO:Array Oper:=match kA with | .seq _ (.seq _ (.seq _ (.seq (.region _ o _) _)))=>o | _=>#[]
noncomputable def k28:Code:=match kA with | .seq _ (.seq _ (.seq _ (.seq _ c)))=>c | _=>.skip
noncomputable def BE:Array Oper:=match k28 with | .seq (.region _ o _) _=>o | _=>#[]
noncomputable def k29:Code:=match k28 with | .seq _ c=>c | _=>.skip
section
variable (c:Cst) (b₁:Frame) (a₁:Act) (ops₁:Array Oper) (i₁:Nat) (rest₁:List Nat) (k₁:List Item) (cs₁:List Frame)
def kT2 (s:Bool) (g:Goroutine):Prop:=∃(ws:Int) (v:Nat→Value),g=G ((base 89).at ⟨#[.pointer (some ⟨c.Fd,0,none⟩),v 1,.int .i64 ws,.bool s,v 4,v 5,v 6,v 7,v 8,v 9,v 10,v 11,v 12,v 13,v 14,v 15,v 16,v 17,v 18,v 19,v 20,v 21,v 22,v 23,v 24,v 25,v 26,v 27,v 28,v 29,v 30,v 31,v 32,v 33,v 34,v 35,v 36,v 37,v 38,v 39,v 40,v 41,v 42,v 43,v 44,v 45,v 46,v 47,v 48,v 49,v 50,v 51,v 52,v 53,v 54,v 55,v 56,v 57,v 58,v 59,v 60,v 61,v 62,v 63,v 64,v 65,v 66,v 67,v 68,v 69,v 70,v 71,v 72,v 73,v 74,v 75,v 76,v 77,v 78,v 79,v 80,v 81,v 82,v 83,v 84,v 85,v 86,v 87,v 88,v 89,v 90,v 91,v 92,v 93,v 94,.bool s,v 96,v 97,v 98,v 99,v 100,v 101,v 102,v 103,v 104,v 105,v 106,v 107,v 108,v 109,v 110,v 111,v 112,v 113,v 114,v 115,v 116,v 117,v 118,v 119,v 120,v 121,v 122,v 123,v 124,v 125,v 126,v 127,v 128,v 129,v 130,v 131,v 132,v 133,v 134,v 135,v 136,v 137,v 138],[]⟩ [.inRegion BE [2,3,4,5,6,7],.code k29,.inBlock 1,.inLoop bh,.inBlock 0,.code cy]) (b₁.at a₁ (.inRegion ops₁ (i₁ :: rest₁) :: k₁) :: cs₁)
def kS1 (s:Bool) (g:Goroutine):Prop:=∃(ws:Int) (v:Nat→Value),g=G ((base 89).at ⟨#[.pointer (some ⟨c.Fd,0,none⟩),v 1,.int .i64 ws,.bool s,v 4,v 5,v 6,v 7,v 8,v 9,v 10,v 11,v 12,v 13,v 14,v 15,v 16,v 17,v 18,v 19,v 20,v 21,v 22,v 23,v 24,v 25,v 26,v 27,v 28,v 29,v 30,v 31,v 32,v 33,v 34,v 35,v 36,v 37,v 38,v 39,v 40,v 41,v 42,v 43,v 44,v 45,v 46,v 47,v 48,v 49,v 50,v 51,v 52,v 53,v 54,v 55,v 56,v 57,v 58,v 59,v 60,v 61,v 62,v 63,v 64,v 65,v 66,v 67,v 68,v 69,v 70,v 71,v 72,v 73,v 74,v 75,v 76,v 77,v 78,v 79,v 80,v 81,v 82,v 83,v 84,v 85,v 86,v 87,v 88,v 89,v 90,.pointer (some ⟨c.Fd,1,none⟩),v 92,v 93,v 94,v 95,v 96,v 97,v 98,v 99,v 100,v 101,v 102,v 103,v 104,v 105,v 106,v 107,v 108,v 109,v 110,v 111,v 112,v 113,v 114,v 115,v 116,v 117,v 118,v 119,v 120,v 121,v 122,v 123,v 124,v 125,v 126,v 127,v 128,v 129,v 130,v 131,v 132,v 133,v 134,v 135,v 136,v 137,v 138],[]⟩ [.inRegion BO [4],.code k28,.inBlock 1,.inLoop bh,.inBlock 0,.code cy]) (b₁.at a₁ (.inRegion ops₁ (i₁ :: rest₁) :: k₁) :: cs₁)
end
section
variable {c:Cst} {b₁:Frame} {a₁:Act} {ops₁:Array Oper} {i₁:Nat} {rest₁:List Nat} {k₁:List Item} {cs₁:List Frame}
set_option maxRecDepth 100000 in
theorem Bw {s:Bool} {ws:Int} (l:Array Value) (hl:l.size=139) (h0:l[0]? = some (.pointer (some ⟨c.Fd,0,none⟩))) (h2:l[2]? = some (.int .i64 ws)) (h3:l[3]? = some (.bool s)) (h95:l[95]? = some (.bool s)) :
  kT2 c b₁ a₁ ops₁ i₁ rest₁ k₁ cs₁ s (G ((base 89).at ⟨l,[]⟩ [.inRegion BE [2,3,4,5,6,7],.code k29,.inBlock 1,.inLoop bh,.inBlock 0,.code cy]) (b₁.at a₁ (.inRegion ops₁ (i₁ :: rest₁) :: k₁) :: cs₁)):=by
 have e:=bU l 139 hl
 generalize hv:(fun i=>l.getD i undef)=v at e
 have fv:∀i x,l[i]? = some x→v i=x:=fun i x hx=>by rw[←hv];simp[Array.getD_eq_getD_getElem?,hx]
 refine ⟨ws,v,?_⟩
 have q:l=#[v 0,v 1,v 2,v 3,v 4,v 5,v 6,v 7,v 8,v 9,v 10,v 11,v 12,v 13,v 14,v 15,v 16,v 17,v 18,v 19,v 20,v 21,v 22,v 23,v 24,v 25,v 26,v 27,v 28,v 29,v 30,v 31,v 32,v 33,v 34,v 35,v 36,v 37,v 38,v 39,v 40,v 41,v 42,v 43,v 44,v 45,v 46,v 47,v 48,v 49,v 50,v 51,v 52,v 53,v 54,v 55,v 56,v 57,v 58,v 59,v 60,v 61,v 62,v 63,v 64,v 65,v 66,v 67,v 68,v 69,v 70,v 71,v 72,v 73,v 74,v 75,v 76,v 77,v 78,v 79,v 80,v 81,v 82,v 83,v 84,v 85,v 86,v 87,v 88,v 89,v 90,v 91,v 92,v 93,v 94,v 95,v 96,v 97,v 98,v 99,v 100,v 101,v 102,v 103,v 104,v 105,v 106,v 107,v 108,v 109,v 110,v 111,v 112,v 113,v 114,v 115,v 116,v 117,v 118,v 119,v 120,v 121,v 122,v 123,v 124,v 125,v 126,v 127,v 128,v 129,v 130,v 131,v 132,v 133,v 134,v 135,v 136,v 137,v 138]:=e.trans rfl
 rw[fv 0 _ h0,fv 2 _ h2,fv 3 _ h3,fv 95 _ h95] at q
 rw[q]
set_option maxRecDepth 100000 in
theorem pn {s:Bool} {ws:Int} (l:Array Value) (hl:l.size=139) (h0:l[0]? = some (.pointer (some ⟨c.Fd,0,none⟩))) (h2:l[2]? = some (.int .i64 ws)) (h3:l[3]? = some (.bool s)) (h91:l[91]? = some (.pointer (some ⟨c.Fd,1,none⟩))) :
  kS1 c b₁ a₁ ops₁ i₁ rest₁ k₁ cs₁ s (G ((base 89).at ⟨l,[]⟩ [.inRegion BO [4],.code k28,.inBlock 1,.inLoop bh,.inBlock 0,.code cy]) (b₁.at a₁ (.inRegion ops₁ (i₁ :: rest₁) :: k₁) :: cs₁)):=by
 have e:=bU l 139 hl
 generalize hv:(fun i=>l.getD i undef)=v at e
 have fv:∀i x,l[i]? = some x→v i=x:=fun i x hx=>by rw[←hv];simp[Array.getD_eq_getD_getElem?,hx]
 refine ⟨ws,v,?_⟩
 have q:l=#[v 0,v 1,v 2,v 3,v 4,v 5,v 6,v 7,v 8,v 9,v 10,v 11,v 12,v 13,v 14,v 15,v 16,v 17,v 18,v 19,v 20,v 21,v 22,v 23,v 24,v 25,v 26,v 27,v 28,v 29,v 30,v 31,v 32,v 33,v 34,v 35,v 36,v 37,v 38,v 39,v 40,v 41,v 42,v 43,v 44,v 45,v 46,v 47,v 48,v 49,v 50,v 51,v 52,v 53,v 54,v 55,v 56,v 57,v 58,v 59,v 60,v 61,v 62,v 63,v 64,v 65,v 66,v 67,v 68,v 69,v 70,v 71,v 72,v 73,v 74,v 75,v 76,v 77,v 78,v 79,v 80,v 81,v 82,v 83,v 84,v 85,v 86,v 87,v 88,v 89,v 90,v 91,v 92,v 93,v 94,v 95,v 96,v 97,v 98,v 99,v 100,v 101,v 102,v 103,v 104,v 105,v 106,v 107,v 108,v 109,v 110,v 111,v 112,v 113,v 114,v 115,v 116,v 117,v 118,v 119,v 120,v 121,v 122,v 123,v 124,v 125,v 126,v 127,v 128,v 129,v 130,v 131,v 132,v 133,v 134,v 135,v 136,v 137,v 138]:=e.trans rfl
 rw[fv 0 _ h0,fv 2 _ h2,fv 3 _ h3,fv 91 _ h91] at q
 rw[q]
end
section
variable {c:Cst} {tW tX:TypeId} {R:Nat→Array Value} {β:Type} {eB:β→Nat→Value} {up:β→Nat→β} {k q:Nat} {Ur:Goroutine→Prop}
variable {b₁:Frame} {a₁:Act} {ops₁:Array Oper} {i₁:Nat} {rest₁:List Nat} {k₁:List Item} {cs₁:List Frame}
set_option maxRecDepth 100000 in
set_option maxHeartbeats 8000000 in
theorem xP (hK:2≤c.K) (hT:dh Try.prog c tW tX R eB up k q Ur (G (b₁.at (a₁.put ((ops₁[i₁]?).bind (·.dst)) (.tuple #[])) (.inRegion ops₁ rest₁ :: k₁)) cs₁)) {g:Goroutine} (hg:kT2 c b₁ a₁ ops₁ i₁ rest₁ k₁ cs₁ false g) :
  yT2 Try.prog c tW (yLa Try.prog c tW (dh Try.prog c tW tX R eB up k q Ur)) (kHd c b₁ a₁ ops₁ i₁ rest₁ k₁ cs₁) false g:=by
 obtain ⟨ws,v,rfl⟩:=hg
 simp only[BE,k29,k28,kA,jK,k22,dD,bh,Try.f89,Option.getD_some]
 refine ⟨⟨_,_,rfl⟩,fun w W m hk hm hsf hok hq hm1 _=>?_⟩
 refine ⟨.r2 (decide (1000000<IntKind.i64.wrap (((w.os.mono+w.tick:Nat):Int)-ws))),W,m,_,_,_,.t2,stepG_nanotime rfl rfl (by k_ne) rfl Try.func95 uf ug tA tC uv,bC.later hm,fun e he=>by simp at he,rfl,_,rfl,?_⟩
 generalize ((w.os.mono+w.tick:Nat):Int)=tv
 refine aO 60 rfl fun w hF=>?_
 clear hk hm hsf hok hq hm1
 walk_nrm
 repeat w_go aa
 refine Goes.stop (fun w₁ h₁=>⟨rfl,?_⟩)
 exact qz hK hT (wO _ rfl rfl rfl rfl rfl)
set_option maxRecDepth 100000 in
set_option maxHeartbeats 8000000 in
theorem jB (hK:2≤c.K) (hT:dh Try.prog c tW tX R eB up k q Ur (G (b₁.at (a₁.put ((ops₁[i₁]?).bind (·.dst)) (.tuple #[])) (.inRegion ops₁ rest₁ :: k₁)) cs₁)) {s:Bool} {g:Goroutine} (hg:kS1 c b₁ a₁ ops₁ i₁ rest₁ k₁ cs₁ s g) :
  yS1 Try.prog c tW (yLa Try.prog c tW (dh Try.prog c tW tX R eB up k q Ur)) (kHd c b₁ a₁ ops₁ i₁ rest₁ k₁ cs₁) s g:=by
 obtain ⟨ws,v,rfl⟩:=hg
 simp only[BO,k28,kA,jK,k22,dD,bh,Try.f89,Option.getD_some]
 refine ⟨⟨⟨_,_,rfl⟩,fun w W m hk hm hsf hok hq hm1 hm2=>?_⟩,rfl,fun w W hk hm=>stepG_semacquire_wait rfl rfl rfl Try.func96 oS oC o8 ou (by simp[Act.eval]) hm.2⟩
 obtain rfl:=hm2 s rfl
 have ev:∀e ∈ semEvents ⟨c.Fd,1,none⟩,(∃o wr,o<2∧e=⟨.cell ⟨c.Fd,o,none⟩,wr,true⟩)∨e=mk .disable∨e=mk .enable:=by
  intro e he
  simp[semEvents] at he
  rcases he with rfl | rfl | rfl | rfl
  ·exact .inr (.inl rfl)
  ·exact .inl ⟨1,false,by omega,rfl⟩
  ·exact .inl ⟨1,true,by omega,rfl⟩
  ·exact .inr (.inr rfl)
 rcases s with _ | _
 ·refine ⟨.t2 false,W,0,_,_,_,.s1t,stepG_semacquire rfl rfl (by k_ne) rfl Try.func96 oS oC o8 ou (by simp[Act.eval]) hm.2 (by decide) (bq hk 1),bC.sm hk hK hm 0,ev,rfl,.inl ⟨_,rfl,aO 60 rfl fun w hF=>?_⟩⟩
  clear hk hm hsf hok hq hm1 hm2 ev
  walk_nrm
  repeat w_go aa
  refine Goes.stop (fun w₁ h₁=>⟨rfl,?_⟩)
  exact xP hK hT (Bw _ rfl rfl rfl rfl rfl)
 ·refine ⟨.r2 true,W,0,_,_,_,.s1r,stepG_semacquire rfl rfl (by k_ne) rfl Try.func96 oS oC o8 ou (by simp[Act.eval]) hm.2 (by decide) (bq hk 1),bC.sm hk hK hm 0,ev,rfl,.inr ⟨_,rfl,aO 60 rfl fun w hF=>?_⟩⟩
  clear hk hm hsf hok hq hm1 hm2 ev
  walk_nrm
  repeat w_go aa
  refine Goes.stop (fun w₁ h₁=>⟨rfl,?_⟩)
  exact qz hK hT (wO _ rfl rfl rfl rfl rfl)
end
end Cs
end Go.Proofs.Ytpdemelchhkfaaa
