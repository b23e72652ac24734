import Derived.Test.YtpdemelchhkfaaaJn21
namespace Go.Proofs.Ytpdemelchhkfaaa
namespace Cs
open Go.Conc Go.RowKit Go.Conc.Lib Go.ConcR.Gen Go.ConcN.Gen
open Go.ConcR (KK WgAt wgBlock stA smA rd wr mk DC0)
open Go.ConcM (OsLater goes_pad)
noncomputable def kHp:Code:=match Try.f89.body.getD .skip with | .seq _ (.seq _ (.seq _ (.seq _ (.seq _ (.seq (.block _ (.loop (.block _ (.seq c _)))) _)))))=>c | _=>.skip
theorem jO:bh=.block 1 (.seq kHp dD):=rfl
section
variable {c:Cst} {tW:TypeId} {b₁:Frame} {a₁:Act} {ops₁:Array Oper} {i₁:Nat} {rest₁:List Nat} {k₁:List Item} {cs₁:List Frame}
set_option maxRecDepth 100000 in
set_option maxHeartbeats 8000000 in
theorem yG {o:Wd} {a s:Bool} {it:Nat} (hl:o.l=0) (hs:o.s=0) {g:Goroutine} (hg:kHd c b₁ a₁ ops₁ i₁ rest₁ k₁ cs₁ o a s it g) :
  ∀w,Ok3 c tW w→Goes Try.prog false (fun _ w=>Ok3 c tW w) DC0 (fun g _=>g.status=.running∧kMd c b₁ a₁ ops₁ i₁ rest₁ k₁ cs₁ o a s it g) 40 g w:=by
 obtain ⟨ho,ws,v,rfl⟩:=hg
 have h5:bits .and .i32 o.enc 5=0:=by
  have:=iQ ho.1 (by have:=ho.2.1;omega)
  rw[hl,hs] at this;exact this
 intro w hF
 rw[jO]
 simp only[kHp,Try.f89,Option.getD_some]
 repeat w_go aa
 refine Goes.stop (fun w₁ h₁=>⟨rfl,?_⟩)
 exact l8 ho _ rfl rfl rfl rfl rfl rfl rfl
set_option maxRecDepth 100000 in
set_option maxHeartbeats 8000000 in
theorem xW {o:Wd} {a s:Bool} {it:Nat} (hl:o.l=0) (hs:o.s=1) {g:Goroutine} (hg:kHd c b₁ a₁ ops₁ i₁ rest₁ k₁ cs₁ o a s it g) :
  ∀w,Ok3 c tW w→Goes Try.prog false (fun _ w=>Ok3 c tW w) DC0 (fun g _=>g.status=.running∧kMd c b₁ a₁ ops₁ i₁ rest₁ k₁ cs₁ o a s it g) 40 g w:=by
 obtain ⟨ho,ws,v,rfl⟩:=hg
 have h5:bits .and .i32 o.enc 5=4:=by
  have:=iQ ho.1 (by have:=ho.2.1;omega)
  rw[hl,hs] at this;exact this
 intro w hF
 rw[jO]
 simp only[kHp,Try.f89,Option.getD_some]
 repeat w_go aa
 refine Goes.stop (fun w₁ h₁=>⟨rfl,?_⟩)
 exact l8 ho _ rfl rfl rfl rfl rfl rfl rfl
set_option maxRecDepth 100000 in
set_option maxHeartbeats 8000000 in
theorem wR {o:Wd} {a s:Bool} {it:Nat} (hl:o.l=1) (hs:o.s=1) {g:Goroutine} (hg:kHd c b₁ a₁ ops₁ i₁ rest₁ k₁ cs₁ o a s it g) :
  ∀w,Ok3 c tW w→Goes Try.prog false (fun _ w=>Ok3 c tW w) DC0 (fun g _=>g.status=.running∧kMd c b₁ a₁ ops₁ i₁ rest₁ k₁ cs₁ o a s it g) 40 g w:=by
 obtain ⟨ho,ws,v,rfl⟩:=hg
 have h5:bits .and .i32 o.enc 5=5:=by
  have:=iQ ho.1 (by have:=ho.2.1;omega)
  rw[hl,hs] at this;exact this
 intro w hF
 rw[jO]
 simp only[kHp,Try.f89,Option.getD_some]
 repeat w_go aa
 refine Goes.stop (fun w₁ h₁=>⟨rfl,?_⟩)
 exact l8 ho _ rfl rfl rfl rfl rfl rfl rfl
end
end Cs
namespace Cs
open Go.Conc Go.RowKit Go.Conc.Lib Go.ConcR.Gen Go.ConcN.Gen
open Go.ConcR (KK WgAt wgBlock stA smA rd wr mk DC0)
open Go.ConcM (OsLater goes_pad)
noncomputable def kO5:Array Oper:=match kHp with | .seq (.region _ o _) _=>o | _=>#[]
noncomputable def m4:Code:=match kHp with | .seq _ c=>c | _=>.skip
section
variable (c:Cst) (b₁:Frame) (a₁:Act) (ops₁:Array Oper) (i₁:Nat) (rest₁:List Nat) (k₁:List Item) (cs₁:List Frame)
def kSq (o:Wd) (a s:Bool) (it:Nat) (g:Goroutine):Prop:=kY o a s it∧∃(ws:Int) (v:Nat→Value),g=G ((base 89).at ⟨#[.pointer (some ⟨c.Fd,0,none⟩),v 1,.int .i64 ws,.bool s,.bool a,.int .i64 (it:Nat),.int .i32 o.enc,v 7,v 8,v 9,v 10,v 11,v 12,v 13,v 14,v 15,v 16,.bool true,.int .i64 (it:Nat),v 19,v 20,v 21,v 22,v 23,v 24,v 25,v 26,v 27,v 28,v 29,v 30,v 31,v 32,v 33,v 34,v 35,v 36,v 37,v 38,v 39,v 40,v 41,v 42,v 43,v 44,v 45,v 46,v 47,v 48,v 49,v 50,v 51,v 52,v 53,v 54,v 55,v 56,v 57,v 58,v 59,v 60,v 61,v 62,v 63,v 64,v 65,v 66,v 67,v 68,v 69,v 70,v 71,v 72,v 73,v 74,v 75,v 76,v 77,v 78,v 79,v 80,v 81,v 82,v 83,v 84,v 85,v 86,v 87,v 88,v 89,v 90,v 91,v 92,v 93,v 94,v 95,v 96,v 97,v 98,v 99,v 100,v 101,v 102,v 103,v 104,v 105,v 106,v 107,v 108,v 109,v 110,v 111,v 112,v 113,v 114,v 115,v 116,v 117,v 118,v 119,v 120,v 121,v 122,v 123,v 124,v 125,v 126,v 127,v 128,v 129,v 130,v 131,v 132,v 133,v 134,v 135,v 136,v 137,v 138],[]⟩ [.inRegion kO5 [5,6],.code m4,.code dD,.inBlock 1,.inLoop bh,.inBlock 0,.code cy]) (b₁.at a₁ (.inRegion ops₁ (i₁ :: rest₁) :: k₁) :: cs₁)
end
section
variable {c:Cst} {tW:TypeId} {b₁:Frame} {a₁:Act} {ops₁:Array Oper} {i₁:Nat} {rest₁:List Nat} {k₁:List Item} {cs₁:List Frame}
set_option maxRecDepth 100000 in
theorem B3 {o:Wd} {a s:Bool} {it:Nat} (ho:kY o a s it) {ws:Int} (l:Array Value) (hl:l.size=139) (h0:l[0]? = some (.pointer (some ⟨c.Fd,0,none⟩))) (h2:l[2]? = some (.int .i64 ws)) (h3:l[3]? = some (.bool s)) (h4:l[4]? = some (.bool a)) (h5:l[5]? = some (.int .i64 (it:Nat))) (h6:l[6]? = some (.int .i32 o.enc)) (h17:l[17]? = some (.bool true)) (h18:l[18]? = some (.int .i64 (it:Nat))) :
  kSq c b₁ a₁ ops₁ i₁ rest₁ k₁ cs₁ o a s it (G ((base 89).at ⟨l,[]⟩ [.inRegion kO5 [5,6],.code m4,.code dD,.inBlock 1,.inLoop bh,.inBlock 0,.code cy]) (b₁.at a₁ (.inRegion ops₁ (i₁ :: rest₁) :: k₁) :: cs₁)):=by
 have e:=bU l 139 hl
 generalize hv:(fun i=>l.getD i undef)=v at e
 have fv:∀i x,l[i]? = some x→v i=x:=fun i x hx=>by rw[←hv];simp[Array.getD_eq_getD_getElem?,hx]
 refine ⟨ho,ws,v,?_⟩
 have q:l=#[v 0,v 1,v 2,v 3,v 4,v 5,v 6,v 7,v 8,v 9,v 10,v 11,v 12,v 13,v 14,v 15,v 16,v 17,v 18,v 19,v 20,v 21,v 22,v 23,v 24,v 25,v 26,v 27,v 28,v 29,v 30,v 31,v 32,v 33,v 34,v 35,v 36,v 37,v 38,v 39,v 40,v 41,v 42,v 43,v 44,v 45,v 46,v 47,v 48,v 49,v 50,v 51,v 52,v 53,v 54,v 55,v 56,v 57,v 58,v 59,v 60,v 61,v 62,v 63,v 64,v 65,v 66,v 67,v 68,v 69,v 70,v 71,v 72,v 73,v 74,v 75,v 76,v 77,v 78,v 79,v 80,v 81,v 82,v 83,v 84,v 85,v 86,v 87,v 88,v 89,v 90,v 91,v 92,v 93,v 94,v 95,v 96,v 97,v 98,v 99,v 100,v 101,v 102,v 103,v 104,v 105,v 106,v 107,v 108,v 109,v 110,v 111,v 112,v 113,v 114,v 115,v 116,v 117,v 118,v 119,v 120,v 121,v 122,v 123,v 124,v 125,v 126,v 127,v 128,v 129,v 130,v 131,v 132,v 133,v 134,v 135,v 136,v 137,v 138]:=e.trans rfl
 rw[fv 0 _ h0,fv 2 _ h2,fv 3 _ h3,fv 4 _ h4,fv 5 _ h5,fv 6 _ h6,fv 17 _ h17,fv 18 _ h18] at q
 rw[q]
set_option maxRecDepth 100000 in
set_option maxHeartbeats 8000000 in
theorem zk {o:Wd} {a s:Bool} {it:Nat} (hl:o.l=1) (hs:o.s=0) {g:Goroutine} (hg:kHd c b₁ a₁ ops₁ i₁ rest₁ k₁ cs₁ o a s it g) :
  ∀w,Ok3 c tW w→Goes Try.prog false (fun _ w=>Ok3 c tW w) DC0 (fun g _=>g.status=.running∧kSq c b₁ a₁ ops₁ i₁ rest₁ k₁ cs₁ o a s it g) 40 g w:=by
 obtain ⟨ho,ws,v,rfl⟩:=hg
 have h5:bits .and .i32 o.enc 5=1:=by
  have:=iQ ho.1 (by have:=ho.2.1;omega)
  rw[hl,hs] at this;exact this
 intro w hF
 rw[jO]
 simp only[kHp,Try.f89,Option.getD_some]
 repeat w_go aa
 refine Goes.stop (fun w₁ h₁=>⟨rfl,?_⟩)
 exact B3 ho _ rfl rfl rfl rfl rfl rfl rfl rfl rfl
end
end Cs
namespace Cs
open Go.Conc Go.RowKit Go.Conc.Lib Go.ConcR.Gen Go.ConcN.Gen
open Go.ConcR (KK WgAt wgBlock stA smA rd wr mk DC0)
open Go.ConcM (OsLater goes_pad)
noncomputable def AS:Array Oper:=match jK with | .cond _ _ (.region _ o _)=>o | _=>#[]
noncomputable def Bb:Array Oper:=match m4 with | .cond _ (.seq _ (.seq _ (.seq _ (.seq (.region _ o _) _)))) _=>o | _=>#[]
section
variable (c:Cst) (b₁:Frame) (a₁:Act) (ops₁:Array Oper) (i₁:Nat) (rest₁:List Nat) (k₁:List Item) (cs₁:List Frame)
def kR3 (a s:Bool) (it:Nat) (g:Goroutine):Prop:=∃(ws:Int) (v:Nat→Value),g=G ((base 89).at ⟨#[.pointer (some ⟨c.Fd,0,none⟩),v 1,.int .i64 ws,.bool s,.bool a,.int .i64 (it:Nat),v 6,v 7,v 8,v 9,v 10,v 11,v 12,v 13,v 14,v 15,v 16,v 17,v 18,v 19,v 20,v 21,v 22,v 23,v 24,v 25,v 26,v 27,v 28,v 29,v 30,v 31,v 32,v 33,v 34,v 35,v 36,v 37,v 38,v 39,v 40,v 41,v 42,v 43,v 44,v 45,v 46,v 47,v 48,v 49,v 50,v 51,v 52,v 53,v 54,v 55,v 56,v 57,v 58,v 59,v 60,v 61,v 62,v 63,v 64,v 65,v 66,v 67,v 68,v 69,v 70,v 71,v 72,v 73,v 74,v 75,v 76,v 77,v 78,v 79,v 80,v 81,v 82,v 83,v 84,v 85,v 86,v 87,v 88,v 89,v 90,v 91,v 92,v 93,v 94,v 95,v 96,v 97,v 98,v 99,v 100,v 101,v 102,v 103,v 104,v 105,v 106,v 107,v 108,v 109,v 110,v 111,v 112,v 113,v 114,v 115,v 116,v 117,v 118,v 119,v 120,v 121,v 122,v 123,v 124,v 125,v 126,v 127,v 128,v 129,v 130,v 131,v 132,.pointer (some ⟨c.Fd,0,none⟩),v 134,v 135,v 136,v 137,v 138],[]⟩ [.inRegion AS [3,4],.inBlock 1,.inLoop bh,.inBlock 0,.code cy]) (b₁.at a₁ (.inRegion ops₁ (i₁ :: rest₁) :: k₁) :: cs₁)
def kR1 (a s:Bool) (it:Nat) (g:Goroutine):Prop:=∃(ws:Int) (v:Nat→Value),g=G ((base 89).at ⟨#[.pointer (some ⟨c.Fd,0,none⟩),v 1,.int .i64 ws,.bool s,.bool a,.int .i64 (it:Nat),v 6,v 7,v 8,v 9,v 10,v 11,v 12,v 13,v 14,v 15,v 16,v 17,v 18,v 19,v 20,v 21,v 22,v 23,v 24,v 25,v 26,v 27,v 28,v 29,v 30,v 31,v 32,v 33,v 34,v 35,v 36,v 37,v 38,v 39,v 40,v 41,v 42,v 43,v 44,v 45,v 46,.pointer (some ⟨c.Fd,0,none⟩),v 48,v 49,v 50,v 51,v 52,v 53,v 54,v 55,v 56,v 57,v 58,v 59,v 60,v 61,v 62,v 63,v 64,v 65,v 66,v 67,v 68,v 69,v 70,v 71,v 72,v 73,v 74,v 75,v 76,v 77,v 78,v 79,v 80,v 81,v 82,v 83,v 84,v 85,v 86,v 87,v 88,v 89,v 90,v 91,v 92,v 93,v 94,v 95,v 96,v 97,v 98,v 99,v 100,v 101,v 102,v 103,v 104,v 105,v 106,v 107,v 108,v 109,v 110,v 111,v 112,v 113,v 114,v 115,v 116,v 117,v 118,v 119,v 120,v 121,v 122,v 123,v 124,v 125,v 126,v 127,v 128,v 129,v 130,v 131,v 132,v 133,v 134,v 135,v 136,v 137,v 138],[]⟩ [.inRegion Bb [3,4],.code (.exit 1),.code dD,.inBlock 1,.inLoop bh,.inBlock 0,.code cy]) (b₁.at a₁ (.inRegion ops₁ (i₁ :: rest₁) :: k₁) :: cs₁)
end
section
variable {c:Cst} {tW:TypeId} {b₁:Frame} {a₁:Act} {ops₁:Array Oper} {i₁:Nat} {rest₁:List Nat} {k₁:List Item} {cs₁:List Frame}
set_option maxRecDepth 100000 in
theorem pI {a s:Bool} {it:Nat} {ws:Int} (l:Array Value) (hl:l.size=139) (h0:l[0]? = some (.pointer (some ⟨c.Fd,0,none⟩))) (h2:l[2]? = some (.int .i64 ws)) (h3:l[3]? = some (.bool s)) (h4:l[4]? = some (.bool a)) (h5:l[5]? = some (.int .i64 (it:Nat))) (h133:l[133]? = some (.pointer (some ⟨c.Fd,0,none⟩))) :
  kR3 c b₁ a₁ ops₁ i₁ rest₁ k₁ cs₁ a s it (G ((base 89).at ⟨l,[]⟩ [.inRegion AS [3,4],.inBlock 1,.inLoop bh,.inBlock 0,.code cy]) (b₁.at a₁ (.inRegion ops₁ (i₁ :: rest₁) :: k₁) :: cs₁)):=by
 have e:=bU l 139 hl
 generalize hv:(fun i=>l.getD i undef)=v at e
 have fv:∀i x,l[i]? = some x→v i=x:=fun i x hx=>by rw[←hv];simp[Array.getD_eq_getD_getElem?,hx]
 refine ⟨ws,v,?_⟩
 have q:l=#[v 0,v 1,v 2,v 3,v 4,v 5,v 6,v 7,v 8,v 9,v 10,v 11,v 12,v 13,v 14,v 15,v 16,v 17,v 18,v 19,v 20,v 21,v 22,v 23,v 24,v 25,v 26,v 27,v 28,v 29,v 30,v 31,v 32,v 33,v 34,v 35,v 36,v 37,v 38,v 39,v 40,v 41,v 42,v 43,v 44,v 45,v 46,v 47,v 48,v 49,v 50,v 51,v 52,v 53,v 54,v 55,v 56,v 57,v 58,v 59,v 60,v 61,v 62,v 63,v 64,v 65,v 66,v 67,v 68,v 69,v 70,v 71,v 72,v 73,v 74,v 75,v 76,v 77,v 78,v 79,v 80,v 81,v 82,v 83,v 84,v 85,v 86,v 87,v 88,v 89,v 90,v 91,v 92,v 93,v 94,v 95,v 96,v 97,v 98,v 99,v 100,v 101,v 102,v 103,v 104,v 105,v 106,v 107,v 108,v 109,v 110,v 111,v 112,v 113,v 114,v 115,v 116,v 117,v 118,v 119,v 120,v 121,v 122,v 123,v 124,v 125,v 126,v 127,v 128,v 129,v 130,v 131,v 132,v 133,v 134,v 135,v 136,v 137,v 138]:=e.trans rfl
 rw[fv 0 _ h0,fv 2 _ h2,fv 3 _ h3,fv 4 _ h4,fv 5 _ h5,fv 133 _ h133] at q
 rw[q]
set_option maxRecDepth 100000 in
theorem mj {a s:Bool} {it:Nat} {ws:Int} (l:Array Value) (hl:l.size=139) (h0:l[0]? = some (.pointer (some ⟨c.Fd,0,none⟩))) (h2:l[2]? = some (.int .i64 ws)) (h3:l[3]? = some (.bool s)) (h4:l[4]? = some (.bool a)) (h5:l[5]? = some (.int .i64 (it:Nat))) (h47:l[47]? = some (.pointer (some ⟨c.Fd,0,none⟩))) :
  kR1 c b₁ a₁ ops₁ i₁ rest₁ k₁ cs₁ a s it (G ((base 89).at ⟨l,[]⟩ [.inRegion Bb [3,4],.code (.exit 1),.code dD,.inBlock 1,.inLoop bh,.inBlock 0,.code cy]) (b₁.at a₁ (.inRegion ops₁ (i₁ :: rest₁) :: k₁) :: cs₁)):=by
 have e:=bU l 139 hl
 generalize hv:(fun i=>l.getD i undef)=v at e
 have fv:∀i x,l[i]? = some x→v i=x:=fun i x hx=>by rw[←hv];simp[Array.getD_eq_getD_getElem?,hx]
 refine ⟨ws,v,?_⟩
 have q:l=#[v 0,v 1,v 2,v 3,v 4,v 5,v 6,v 7,v 8,v 9,v 10,v 11,v 12,v 13,v 14,v 15,v 16,v 17,v 18,v 19,v 20,v 21,v 22,v 23,v 24,v 25,v 26,v 27,v 28,v 29,v 30,v 31,v 32,v 33,v 34,v 35,v 36,v 37,v 38,v 39,v 40,v 41,v 42,v 43,v 44,v 45,v 46,v 47,v 48,v 49,v 50,v 51,v 52,v 53,v 54,v 55,v 56,v 57,v 58,v 59,v 60,v 61,v 62,v 63,v 64,v 65,v 66,v 67,v 68,v 69,v 70,v 71,v 72,v 73,v 74,v 75,v 76,v 77,v 78,v 79,v 80,v 81,v 82,v 83,v 84,v 85,v 86,v 87,v 88,v 89,v 90,v 91,v 92,v 93,v 94,v 95,v 96,v 97,v 98,v 99,v 100,v 101,v 102,v 103,v 104,v 105,v 106,v 107,v 108,v 109,v 110,v 111,v 112,v 113,v 114,v 115,v 116,v 117,v 118,v 119,v 120,v 121,v 122,v 123,v 124,v 125,v 126,v 127,v 128,v 129,v 130,v 131,v 132,v 133,v 134,v 135,v 136,v 137,v 138]:=e.trans rfl
 rw[fv 0 _ h0,fv 2 _ h2,fv 3 _ h3,fv 4 _ h4,fv 5 _ h5,fv 47 _ h47] at q
 rw[q]
set_option maxRecDepth 100000 in
set_option maxHeartbeats 8000000 in
theorem lC {a s:Bool} {it:Nat} {g:Goroutine} (hg:kR3 c b₁ a₁ ops₁ i₁ rest₁ k₁ cs₁ a s it g):yR3 Try.prog c tW (kHd c b₁ a₁ ops₁ i₁ rest₁ k₁ cs₁) a s it g:=by
 obtain ⟨ws,v,rfl⟩:=hg
 simp only[AS,jK,k22,dD,bh,Try.f89,Option.getD_some]
 refine ⟨⟨_,_,rfl⟩,fun w W m hk hm hsf hok hq hm1 _=>⟨_,W,m,_,w,_,.r3,cC rfl rfl (by k_ne) rfl rfl hm.1 xz,bC.same hm,fun e he=>by simp at he,(iO _ _ _ _).symm,W,a,s,it,rfl,aO 60 rfl fun w hF=>?_⟩⟩
 have ho:kY W a s it:=⟨hok,hq,fun e=>(hsf.2.2.2.2.2 (by subst e;rfl)).symm,⟨hsf.1.1,hsf.1.2⟩⟩
 clear hk hm hsf hok hq hm1
 walk_nrm
 repeat w_nl aa
 u_c stepG_inLoop aa hF
 refine Goes.stop (fun w₁ h₁=>⟨rfl,?_⟩)
 exact ox ho _ rfl rfl rfl rfl rfl rfl rfl
set_option maxRecDepth 100000 in
set_option maxHeartbeats 8000000 in
theorem jm {a s:Bool} {it:Nat} {g:Goroutine} (hg:kR1 c b₁ a₁ ops₁ i₁ rest₁ k₁ cs₁ a s (it+1) g):yR1 Try.prog c tW (kHd c b₁ a₁ ops₁ i₁ rest₁ k₁ cs₁) a s it g:=by
 obtain ⟨ws,v,rfl⟩:=hg
 simp only[Bb,m4,kHp,dD,bh,Try.f89,Option.getD_some]
 refine ⟨⟨_,_,rfl⟩,fun w W m hk hm hsf hok hq hm1 _=>⟨_,W,m,_,w,_,.r1,cC rfl rfl (by k_ne) rfl rfl hm.1 xz,bC.same hm,fun e he=>by simp at he,(iO _ _ _ _).symm,W,a,s,(it+1),rfl,aO 60 rfl fun w hF=>?_⟩⟩
 have ho:kY W a s (it+1):=⟨hok,hq,fun e=>(hsf.2.2.2.2.2 (by subst e;rfl)).symm,⟨hsf.1.1,by have:=hsf.1.2;omega⟩⟩
 clear hk hm hsf hok hq hm1
 walk_nrm
 repeat w_nl aa
 u_c stepG_inLoop aa hF
 refine Goes.stop (fun w₁ h₁=>⟨rfl,?_⟩)
 exact ox ho _ rfl rfl rfl rfl rfl rfl rfl
end
end Cs
end Go.Proofs.Ytpdemelchhkfaaa
