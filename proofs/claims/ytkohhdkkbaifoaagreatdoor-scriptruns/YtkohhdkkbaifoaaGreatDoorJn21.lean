/-
  Several texts, joined: RoKn, PFirst, PTaking, PSame, PReader, PRead, KThen, ScS, RoKf, ScX.
-/
import Derived.Test.YtkohhdkkbaifoaaGreatDoorJn4
import Derived.Test.YtkohhdkkbaifoaaGreatDoorJn16
import Derived.Test.YtkohhdkkbaifoaaGreatDoorORKw
import Derived.Test.YtkohhdkkbaifoaaGreatDoorJn3
import Derived.Deep.QuietTactic
import Derived.BigQuiet
import Derived.BigRegion
import Derived.Test.YtkohhdkkbaifoaaGreatDoorJn20
import Derived.Maps.OwnIn
import Derived.OwnWalkIn
import Derived.Deep.AppendLies
/-
  Contracts of rotor.permOf, wheelOf, Known and Mirror.
-/
namespace Go.Proofs.YtkohhdkkbaifoaaGreatDoor
open Go.RowKit PK Vg

set_option maxRecDepth 100000 in
set_option maxHeartbeats 2000000 in
theorem permOf_any (s:ByteArray) (hl:Ls s.data.toList) (hs:s.size=26) (w:World):Calls Tryz.prog 224 #[.string s] w fun e w'=>e=.returned (.agg (ints 26 (spl s.data.toList)))∧Below w.heap.size w w':=by
 have hz26:=o_zero v_zero_perm
 have h0:=TuAt.new w
 have HL:=(show Hid (Ls s.data.toList) from hl)
 have hslen:=Pl.size_len s
 go_enter Tryz.func224,Tryz.ntmps224
 go_wp2_with fail
 clear hz26
 go_loopw [5] (fun i V=>∃k:Nat,k≤26∧i=.int .i64 (k:Nat)∧TuAt w V fun c=>if c<k then spl s.data.toList c else 0) (fun i _=>((26:Int)-intOf i).toNat)
 case atStart=>exact ⟨0,by omega,rfl,by simpa using h0⟩
 case round =>
  clear h0
  obtain ⟨k,hk,rfl,hg⟩:=hrel
  by_cases hlt:k<26
  ·have HLT:Hid (k<26):=hlt
   have hk2:(k:Int)<(s.size:Int):=by omega
   have hks:k<s.size:=by omega
   have hxl:=HL.out.at (getD_size hks)
   have hby:s[k]=s.data.toList.getD k 0:=(getD_byte s k hks).symm
   have hsp:spl s.data.toList k=((Vg.num (s.data.toList.getD k 0):Nat):Int):=by unfold spl;rw[if_pos (by omega)]
   have HNX:Hid (∀V,TuAt w V (fun c=>if c<k then spl s.data.toList c else 0)→TuAt w (V.setCell ⟨w.heap.size+1,k,none⟩ (.int .i64 (Vg.num (s.data.toList.getD k 0):Nat))) fun c=>if c<k+1 then spl s.data.toList c else 0):=fun V hg=>by
    have:=hg.set k (Vg.num (s.data.toList.getD k 0):Nat)
    have e:upd (fun c=>if c<k then spl s.data.toList c else 0) k (Vg.num (s.data.toList.getD k 0):Nat)=fun c=>if c<k+1 then spl s.data.toList c else 0:=by
     funext i
     unfold upd
     by_cases e:i=k
     ·rw[if_pos e,if_pos (by omega),e,hsp]
     ·rw[if_neg e]
      show (if i<k then spl s.data.toList i else 0)=_
      by_cases e2:i<k
      ·rw[if_pos e2,if_pos (by omega)]
      ·rw[if_neg e2,if_neg (by omega)]
    rw[e] at this
    exact this
   clear hsp
   have hck:=hg.o.cell (ints_get (fun c=>if c<k then spl s.data.toList c else 0) hlt)
   have hfk:=hg.o.frozen k
   generalize s.data.toList.getD k 0=x at *
   have HX:=(show Hid _ from hxl)
   have HG:=(show Hid _ from HNX.out _ hg)
   clear hxl hg HNX
   go_wp2_with fail
   refine (number_any x HX.out _).mono ?_
   rintro e V ⟨rfl,rfl⟩
   generalize Vg.num x=nx at *
   clear hby
   go_wp2
   go_roundw
   case rel=>exact ⟨k+1,HLT.out,by go_num,HG.out⟩
   case measure=>have:=HLT.out;simp[intOf];omega
  ·obtain rfl:k=26:=by omega
   have hr:=hg.r
   have ho:RowAt wr (w.heap.size+1) 27 (ints 26 (spl s.data.toList)):=by
    have:=hg.o
    rw[ints_ext (g:=spl s.data.toList) fun i hi=>by rw[if_pos hi]] at this
    exact this
   have hbe:=hg.below
   clear hg
   go_wp2_with (first | refine wpList_load_row rfl 27 _ rfl (w.heap.size+1) rfl 27 (ints 26 (spl s.data.toList)) (0,0) _ ho Tryz.underlying27 rfl (by rw[ints_size];exact info_perm) ?_ | refine wpList_store_row rfl 27 _ _ rfl w.heap.size (ints 26 (spl s.data.toList)) rfl rfl 27 _ hr (by rw[ints_size];exact info_perm) (by simp only[ints_size]) (ints_one _ _) ?_)
   exact bodyPost_ret (v:=.agg (ints 26 (spl s.data.toList))) (o_results1 Tryz.results224 _ _ _ _ _ _ _ rfl (hr.row _) Tryz.underlying27 rfl (by rw[ints_size];exact info_perm)) rfl ⟨rfl,Below.setRow hbe _ (Nat.le_refl _) _⟩
set_option maxRecDepth 100000 in
set_option maxHeartbeats 2000000 in
theorem wheelOf_any (s:ByteArray) (hl:Ls s.data.toList) (hs:s.size=26) (x:UInt8) (hx:65≤x.toNat∧x.toNat≤90) (w:World):Calls Tryz.prog 223 #[.string s,.int .u8 (x.toNat:Nat)] w fun e w'=>∃B,e=.returned (.agg (whl (spl s.data.toList) (.slice (some ⟨B,0,none⟩) 1 1)))∧w.heap.size≤B∧NumsAt w' (.slice (some ⟨B,0,none⟩) 1 1) [Vg.num x].length (fun i=>(([Vg.num x].getD i 0:Nat):Int))∧Below w.heap.size w w':=by
 have hz27:=o_zero v_zero_whl
 have hr0:=RowAt.new w 97 (whl (fun _=>0) (.slice none 0 0))
 have hb0:Below w.heap.size w (w.alloc (.cells (whl (fun _=>0) (.slice none 0 0)) 97)):=(Below.refl _ w).alloc (Nat.le_refl _) _
 have HP:=(show Hid (∀W,Calls Tryz.prog 224 #[.string s] W fun e w'=>e=.returned (.agg (ints 26 (spl s.data.toList)))∧Below W.heap.size W w') from fun W=>permOf_any s hl hs W)
 have HX:=(show Hid _ from hx)
 clear hx hl hs
 go_enter Tryz.func223,Tryz.ntmps223
 go_wp2_with fail
 refine (HP.out _).mono ?_
 rintro e V ⟨rfl,hb⟩
 have hr1:=hr0.below hb hr0.lt
 have hb1:=hb0.trans (hb.mono hb0.size)
 have hsz:=hr1.lt
 clear hb hr0 hb0 HP hz27
 go_wp2_with fail
 refine (number_any x HX.out _).mono ?_
 rintro e V2 ⟨rfl,rfl⟩
 have HN:=(show Hid _ from nums_one V (Vg.num x))
 have hr2:=hr1.alloc (.cells #[.int .i64 (Vg.num x:Nat)] 3)
 have hb2:=hb1.alloc hb1.size (.cells #[.int .i64 (Vg.num x:Nat)] 3)
 go_wp2_with (first | refine wpList_buildA rfl 97 [(0,.tmp 6),(1,.tmp 9)] rfl [(0,.agg (ints 26 (spl s.data.toList))),(1,.slice (some ⟨V.heap.size,0,none⟩) 1 1)] rfl _ (built_whl (spl s.data.toList) _ 1 1) ?_ | refine wpList_store_row rfl 97 _ _ rfl w.heap.size (whl (spl s.data.toList) (.slice (some ⟨V.heap.size,0,none⟩) 1 1)) rfl rfl 97 _ hr2 (by rw[whl_size];exact v_info_whl) (by simp only[whl_size]) (whl_one rfl) ?_)
 exact bodyPost_ret (v:=.agg (whl (spl s.data.toList) (.slice (some ⟨V.heap.size,0,none⟩) 1 1))) (o_results1 Tryz.results223 _ _ _ _ _ _ _ rfl (hr2.row _) Tryz.underlying97 rfl (by rw[whl_size];exact v_info_whl)) rfl ⟨V.heap.size,rfl,by omega,nums_row HN.out _ _ (by intro e;injection e with e;exact absurd e (by show ¬V.heap.size=w.heap.size;omega)),Below.setRow hb2 _ (Nat.le_refl _) _⟩
set_option maxRecDepth 100000 in
set_option maxHeartbeats 1000000 in
theorem mirror_any (name:ByteArray) (w:World):Calls Tryz.prog 193 #[.string name] w fun e w'=>e=.returned (.tuple #[.agg (ints 26 (miP name.data.toList)),.int .i64 (miE name.data.toList)])∧Below w.heap.size w w':=by
 have hz26:=o_zero v_zero_perm
 have hr0:=RowAt.new w 27 (ints 26 fun _=>0)
 have hb0:Below w.heap.size w (w.alloc (.cells (ints 26 fun _=>0) 27)):=(Below.refl _ w).alloc (Nat.le_refl _) _
 have hB:=(show Hid (∀W,Calls Tryz.prog 224 #[.string ⟨#[89,82,85,72,81,83,76,68,80,88,78,71,79,75,77,73,69,66,70,90,67,87,86,74,65,84]⟩] W fun e w'=>e=.returned (.agg (ints 26 (spl miB)))∧Below W.heap.size W w') from fun W=>permOf_any ⟨miB.toArray⟩ (ls_dec (by decide)) (by decide) W)
 have hC:=(show Hid (∀W,Calls Tryz.prog 224 #[.string ⟨#[70,86,80,74,73,65,79,89,69,68,82,90,88,87,71,67,84,75,85,81,83,66,78,77,72,76]⟩] W fun e w'=>e=.returned (.agg (ints 26 (spl miC)))∧Below W.heap.size W w') from fun W=>permOf_any ⟨miC.toArray⟩ (ls_dec (by decide)) (by decide) W)
 have q1:=name_eq [66] name
 have q2:=name_eq [67] name
 by_cases h1:name.data.toList=[66]
 ·have HP:Hid (miP name.data.toList=spl miB):=by unfold miP;rw[Hid,if_pos h1]
  have HE:Hid (miE name.data.toList=0):=by unfold miE;rw[Hid,if_pos (.inl h1)]
  rw[decide_eq_true h1] at q1
  clear h1 q2 hC
  go_enter Tryz.func193,Tryz.ntmps193
  go_wp2_with fail
  refine (hB.out _).mono ?_
  rintro e W1 ⟨rfl,hb⟩
  have hr1:=hr0.below hb hr0.lt
  have hb1:=hb0.trans (hb.mono hb0.size)
  clear hb hB hr0 hb0
  go_wp2_with (first | refine wpList_store_row rfl 27 _ _ rfl w.heap.size (ints 26 (spl miB)) rfl rfl 27 _ hr1 (by rw[ints_size];exact info_perm) (by simp only[ints_size]) (ints_one _ _) ?_)
  exact bodyPost_ret (v:=.tuple #[.agg (ints 26 (spl miB)),.int .i64 0]) (results_cell_tmp2 rfl _ _ w.heap.size 27 _ (0,0) _ _ rfl rfl (hr1.row _) Tryz.underlying27 rfl (by rw[ints_size];exact info_perm)) rfl ⟨by rw[HP.out,HE.out],Below.setRow hb1 _ (Nat.le_refl _) _⟩
 ·rw[decide_eq_false h1] at q1
  by_cases h2:name.data.toList=[67]
  ·have HP:Hid (miP name.data.toList=spl miC):=by unfold miP;rw[Hid,if_neg h1,if_pos h2]
   have HE:Hid (miE name.data.toList=0):=by unfold miE;rw[Hid,if_pos (.inr h2)]
   rw[decide_eq_true h2] at q2
   clear h1 h2 hB
   go_enter Tryz.func193,Tryz.ntmps193
   go_wp2_with fail
   refine (hC.out _).mono ?_
   rintro e W1 ⟨rfl,hb⟩
   have hr1:=hr0.below hb hr0.lt
   have hb1:=hb0.trans (hb.mono hb0.size)
   clear hb hC hr0 hb0
   go_wp2_with (first | refine wpList_store_row rfl 27 _ _ rfl w.heap.size (ints 26 (spl miC)) rfl rfl 27 _ hr1 (by rw[ints_size];exact info_perm) (by simp only[ints_size]) (ints_one _ _) ?_)
   exact bodyPost_ret (v:=.tuple #[.agg (ints 26 (spl miC)),.int .i64 0]) (results_cell_tmp2 rfl _ _ w.heap.size 27 _ (0,0) _ _ rfl rfl (hr1.row _) Tryz.underlying27 rfl (by rw[ints_size];exact info_perm)) rfl ⟨by rw[HP.out,HE.out],Below.setRow hb1 _ (Nat.le_refl _) _⟩
  ·have HP:Hid (miP name.data.toList=fun _=>0):=by unfold miP;rw[Hid,if_neg h1,if_neg h2]
   have HE:Hid (miE name.data.toList=7):=by unfold miE;rw[Hid,if_neg (fun h=>h.elim h1 h2)]
   rw[decide_eq_false h2] at q2
   clear h1 h2 hB hC
   have hr1:=hr0
   go_enter Tryz.func193,Tryz.ntmps193
   go_wp2_with (first | refine wpList_build0 rfl 27 rfl _ built_perm ?_ | refine wpList_store_row rfl 27 _ _ rfl w.heap.size (ints 26 fun _=>0) rfl rfl 27 _ hr1 (by rw[ints_size];exact info_perm) (by simp only[ints_size]) (ints_one _ _) ?_)
   exact bodyPost_ret (v:=.tuple #[.agg (ints 26 fun _=>0),.int .i64 7]) (results_cell_tmp2 rfl _ _ w.heap.size 27 _ (0,0) _ _ rfl rfl (hr1.row _) Tryz.underlying27 rfl (by rw[ints_size];exact info_perm)) rfl ⟨by rw[HP.out,HE.out],Below.setRow hb0 _ (Nat.le_refl _) _⟩
end Go.Proofs.YtkohhdkkbaifoaaGreatDoor

/-
  Contract of perm.firstWrong.
-/
namespace Go.Proofs.YtkohhdkkbaifoaaGreatDoor
open Go.RowKit PK

set_option maxHeartbeats 1000000 in
theorem firstWrong_anyP (fs:Nat→Nat→Int) (n:Nat) (hn:n≤2) (b:Nat) (w:World) (hbw:b<w.heap.size) (hr:∀k,k<n→w.rangeAt b (k*26) (ints 26 (fs k)).toList) :
  Calls Tryz.prog 194 #[.slice (some ⟨b,0,none⟩) n n] w fun e w'=>e=.returned (.int .i64 (Pm.firstBad fs n))∧Below w.heap.size w w':=by
 have HR:Hid (∀k,k<n→w.rangeAt b (k*26) (ints 26 (fs k)).toList):=hr
 clear hr
 go_enter Tryz.func194,Tryz.ntmps194
 go_wp2
 go_loopw [8] (fun i W=>∃k:Nat,k≤n∧i=.int .i64 k∧Hid (Pm.firstBad fs k=0)∧Below w.heap.size w W) (fun i _=>(n-intOf i).toNat)
 case atStart=>exact ⟨0,by omega,rfl,rfl,Below.refl _ _⟩
 case round =>
  obtain ⟨k,hk,rfl,HN,hb⟩:=hrel
  have hsz:=hb.size
  by_cases hlt:k<n
  ·have HC:Hid (wr.rangeAt b (k*26) (ints 26 (fs k)).toList):=Below.rangeAt hb (HR.out k hlt) hbw
   have hX:Pm.wrong (fs k)=0∨(Pm.wrong (fs k) != 0)=true:=by by_cases e:Pm.wrong (fs k)=0 <;> simp[e]
   obtain ⟨x,hx⟩:∃x,x=Pm.wrong (fs k):=⟨_,rfl⟩
   rw[←hx] at hX
   have HX:Hid (x=Pm.wrong (fs k)):=hx
   clear hx
   have hcall:∀W:World,Calls Tryz.prog 114 #[.agg (ints 26 (fs k))] W fun e w'=>e=.returned (.int .i64 x)∧Below W.heap.size W w':=fun W=>by rw[HX.out];exact wrong_any (fs k) W
   have HL:Hid (∀W:World,Calls Tryz.prog 114 #[.agg (ints 26 (fs k))] W fun e w'=>e=.returned (.int .i64 x)∧Below W.heap.size W w'):=hcall
   clear hcall
   rcases hX with rfl | hX
   ·go_wp2_with (first
     | refine wpList_load_mid rfl 27 _ rfl b (k*26) rfl (ints 26 (fs k)).toList _ HC.out Tryz.underlying27 rfl (by rw[Array.length_toList,ints_size];exact info_perm) ?_
     | (refine wpList_store_row rfl 27 _ _ rfl wr.heap.size (ints 26 (fs k)) rfl rfl 27 _ (RowAt.new wr _ _) (by rw[ints_size];exact info_perm) (by rw[ints_size];rfl) (ints_one _ _) ?_;rw[World.setRow_alloc_new])
     | refine wpList_load_row rfl 27 _ rfl wr.heap.size rfl 27 (ints 26 (fs k)) (0,0) _ (RowAt.new wr _ _) Tryz.underlying27 rfl (by rw[ints_size];exact info_perm) ?_
     | (go_at_call 114;refine (HL.out _).mono ?_;rintro e w1 ⟨rfl,hb1⟩))
    go_roundw
    case rel=>exact ⟨k+1,by omega,by go_num,by rw[Hid,Pm.firstBad_succ fs k HN.out];exact HX.out.symm,(hb.alloc hsz _).trans (hb1.mono (by simp;omega))⟩
    case measure=>simp[intOf];omega
   ·go_wp2_with (first
     | refine wpList_load_mid rfl 27 _ rfl b (k*26) rfl (ints 26 (fs k)).toList _ HC.out Tryz.underlying27 rfl (by rw[Array.length_toList,ints_size];exact info_perm) ?_
     | (refine wpList_store_row rfl 27 _ _ rfl wr.heap.size (ints 26 (fs k)) rfl rfl 27 _ (RowAt.new wr _ _) (by rw[ints_size];exact info_perm) (by rw[ints_size];rfl) (ints_one _ _) ?_;rw[World.setRow_alloc_new])
     | refine wpList_load_row rfl 27 _ rfl wr.heap.size rfl 27 (ints 26 (fs k)) (0,0) _ (RowAt.new wr _ _) Tryz.underlying27 rfl (by rw[ints_size];exact info_perm) ?_
     | (go_at_call 114;refine (HL.out _).mono ?_;rintro e w1 ⟨rfl,hb1⟩))
    go_ret
    exact ⟨ret_int (HX.out.trans (Pm.firstBad_stop fs k n HN.out (by rw[←HX.out];simpa using hX) hlt).symm),(hb.alloc hsz _).trans (hb1.mono (by simp;omega))⟩
  ·have HK:Hid (k=n):=by rw[Hid];omega
   go_wp2
   go_ret
   exact ⟨ret_int (by rw[←HK.out];exact HN.out.symm),hb⟩
end Go.Proofs.YtkohhdkkbaifoaaGreatDoor

/-
  Contract of perm.taking, for any pairP.
-/
namespace Go.Proofs.YtkohhdkkbaifoaaGreatDoor
open Go.RowKit PK

end Go.Proofs.YtkohhdkkbaifoaaGreatDoor

/-
  Contract of perm.Same; what the calls of two arrays share.
-/
namespace Go.Proofs.YtkohhdkkbaifoaaGreatDoor
open Go.RowKit PK

theorem zero_permP:(Tryz.prog.info? 27).map (fun i=>(i.zero,i.size))=some (some (.agg (ints 26 fun _=>0)),26):=by kernel_rfl

def pairP (f g:Nat→Int):Nat→Nat→Int:=fun k=>if k=0 then f else g
theorem one_okP (p:Nat→Nat) (hp:Pm.IsPerm p):Pm.firstBad (fun _=>Pm.up p) 1=0:=(Pm.firstBad_succ (fun _=>Pm.up p) 0 rfl).trans (Pm.wrong_up p hp)
end Go.Proofs.YtkohhdkkbaifoaaGreatDoor

/-
  The reader of package perm: its cells, and contracts of takeLetter and take.
-/
namespace Go.Proofs.YtkohhdkkbaifoaaGreatDoor
open Go.RowKit PK

end Go.Proofs.YtkohhdkkbaifoaaGreatDoor

/-
  Contract of perm.Read.
-/
namespace Go.Proofs.YtkohhdkkbaifoaaGreatDoor
open Go.RowKit PK

end Go.Proofs.YtkohhdkkbaifoaaGreatDoor

/-
  Contracts of perm.Then and perm.Conjugate.
-/
namespace Go.Proofs.YtkohhdkkbaifoaaGreatDoor
open Go.RowKit PK

def pair (f g:Nat→Int):Nat→Nat→Int:=fun k=>if k=0 then f else g
end Go.Proofs.YtkohhdkkbaifoaaGreatDoor

/-
  What a word tells: a key, a reflector, rings or starts, plugs.
-/
namespace Go.Proofs.YtkohhdkkbaifoaaGreatDoor
open Go.RowKit PK Vg

end Go.Proofs.YtkohhdkkbaifoaaGreatDoor

/-
  rotor.Known again: what it answers is new.
-/
namespace Go.Proofs.YtkohhdkkbaifoaaGreatDoor
open Go.RowKit PK Vg

def Fr0 (B:Nat) (v:Value):Prop:=∀a n c,v=.slice (some a) n c→B≤a.block
set_option maxRecDepth 100000 in
set_option maxHeartbeats 4000000 in
theorem known_new (name:ByteArray) (w:World):Calls Tryz.prog 191 #[.string name] w fun e w'=>∃R,e=.returned (.tuple #[.agg (whl (knW name.data.toList) R),.int .i64 (knE name.data.toList)])∧NumsAt w' R (knN name.data.toList).length (fun i=>((knN name.data.toList).getD i 0:Nat))∧Fr0 w.heap.size R∧Below w.heap.size w w':=by
 have hz27:=o_zero v_zero_whl
 have hr0:=RowAt.new w 97 (whl (fun _=>0) (.slice none 0 0))
 have hb0:Below w.heap.size w (w.alloc (.cells (whl (fun _=>0) (.slice none 0 0)) 97)):=(Below.refl _ w).alloc (Nat.le_refl _) _
 have q0:=name_eq [73] name
 have q1:=name_eq [73,73] name
 have q2:=name_eq [73,73,73] name
 have q3:=name_eq [73,86] name
 have q4:=name_eq [86] name
 by_cases h0:name.data.toList=[73]
 ·have HKW:Hid (knW name.data.toList=spl kw1):=by rw[Hid,h0];rfl
  have HKN:Hid (knN name.data.toList=[Vg.num 81]):=by rw[Hid,h0];rfl
  have HKE:Hid (knE name.data.toList=0):=by rw[Hid,h0];rfl
  rw[decide_eq_true h0] at q0
  have HC:=(show Hid (∀W,Calls Tryz.prog 223 #[.string ⟨#[69,75,77,70,76,71,68,81,86,90,78,84,79,87,89,72,88,85,83,80,65,73,66,82,67,74]⟩,.int .u8 81] W fun e w'=>∃B,e=.returned (.agg (whl (spl kw1) (.slice (some ⟨B,0,none⟩) 1 1)))∧W.heap.size≤B∧NumsAt w' (.slice (some ⟨B,0,none⟩) 1 1) [Vg.num 81].length (fun i=>(([Vg.num 81].getD i 0:Nat):Int))∧Below W.heap.size W w') from fun W=>wheelOf_any ⟨kw1.toArray⟩ (ls_dec (by decide)) (by decide) 81 (by decide) W)
  clear h0 q1 q2 q3 q4
  go_enter Tryz.func191,Tryz.ntmps191
  go_wp2_with fail
  refine (HC.out _).mono ?_
  rintro e V ⟨B,rfl,hB,hn,hb⟩
  have HBB:Hid (w.heap.size≤B):=by rw[Hid];simp at hB;omega
  have hr1:=hr0.below hb hr0.lt
  have hb1:=hb0.trans (hb.mono hb0.size)
  have hlt:=hr0.lt
  have HN:=(show Hid _ from nums_row hn w.heap.size (whl (spl kw1) (.slice (some ⟨B,0,none⟩) 1 1)) (by intro e;injection e with e;exact absurd e (by show ¬B=w.heap.size;omega)))
  clear hb hr0 hb0 HC hz27 hn
  generalize spl kw1=f at *
  go_wp2_with (first | refine wpList_store_row rfl 97 _ _ rfl w.heap.size (whl f (.slice (some ⟨B,0,none⟩) 1 1)) rfl rfl 97 _ hr1 (by rw[whl_size];exact v_info_whl) (by simp only[whl_size]) (whl_one rfl) ?_)
  refine bodyPost_ret (v:=.tuple #[.agg (whl f (.slice (some ⟨B,0,none⟩) 1 1)),.int .i64 0]) (results_cell_tmp2 rfl _ _ w.heap.size 97 _ (0,0) _ _ rfl rfl (hr1.row _) Tryz.underlying97 rfl (by rw[whl_size];exact v_info_whl)) rfl ?_
  rw[HKW.out,HKE.out,HKN.out]
  exact ⟨_,rfl,HN.out,(fun a n c e=>by cases e;exact HBB.out),Below.setRow hb1 _ (Nat.le_refl _) _⟩
 ·rw[decide_eq_false h0] at q0
  by_cases h1:name.data.toList=[73,73]
  ·have HKW:Hid (knW name.data.toList=spl kw2):=by rw[Hid,h1];rfl
   have HKN:Hid (knN name.data.toList=[Vg.num 69]):=by rw[Hid,h1];rfl
   have HKE:Hid (knE name.data.toList=0):=by rw[Hid,h1];rfl
   rw[decide_eq_true h1] at q1
   have HC:=(show Hid (∀W,Calls Tryz.prog 223 #[.string ⟨#[65,74,68,75,83,73,82,85,88,66,76,72,87,84,77,67,81,71,90,78,80,89,70,86,79,69]⟩,.int .u8 69] W fun e w'=>∃B,e=.returned (.agg (whl (spl kw2) (.slice (some ⟨B,0,none⟩) 1 1)))∧W.heap.size≤B∧NumsAt w' (.slice (some ⟨B,0,none⟩) 1 1) [Vg.num 69].length (fun i=>(([Vg.num 69].getD i 0:Nat):Int))∧Below W.heap.size W w') from fun W=>wheelOf_any ⟨kw2.toArray⟩ (ls_dec (by decide)) (by decide) 69 (by decide) W)
   clear h0 h1 q2 q3 q4
   go_enter Tryz.func191,Tryz.ntmps191
   go_wp2_with fail
   refine (HC.out _).mono ?_
   rintro e V ⟨B,rfl,hB,hn,hb⟩
   have HBB:Hid (w.heap.size≤B):=by rw[Hid];simp at hB;omega
   have hr1:=hr0.below hb hr0.lt
   have hb1:=hb0.trans (hb.mono hb0.size)
   have hlt:=hr0.lt
   have HN:=(show Hid _ from nums_row hn w.heap.size (whl (spl kw2) (.slice (some ⟨B,0,none⟩) 1 1)) (by intro e;injection e with e;exact absurd e (by show ¬B=w.heap.size;omega)))
   clear hb hr0 hb0 HC hz27 hn
   generalize spl kw2=f at *
   go_wp2_with (first | refine wpList_store_row rfl 97 _ _ rfl w.heap.size (whl f (.slice (some ⟨B,0,none⟩) 1 1)) rfl rfl 97 _ hr1 (by rw[whl_size];exact v_info_whl) (by simp only[whl_size]) (whl_one rfl) ?_)
   refine bodyPost_ret (v:=.tuple #[.agg (whl f (.slice (some ⟨B,0,none⟩) 1 1)),.int .i64 0]) (results_cell_tmp2 rfl _ _ w.heap.size 97 _ (0,0) _ _ rfl rfl (hr1.row _) Tryz.underlying97 rfl (by rw[whl_size];exact v_info_whl)) rfl ?_
   rw[HKW.out,HKE.out,HKN.out]
   exact ⟨_,rfl,HN.out,(fun a n c e=>by cases e;exact HBB.out),Below.setRow hb1 _ (Nat.le_refl _) _⟩
  ·rw[decide_eq_false h1] at q1
   by_cases h2:name.data.toList=[73,73,73]
   ·have HKW:Hid (knW name.data.toList=spl kw3):=by rw[Hid,h2];rfl
    have HKN:Hid (knN name.data.toList=[Vg.num 86]):=by rw[Hid,h2];rfl
    have HKE:Hid (knE name.data.toList=0):=by rw[Hid,h2];rfl
    rw[decide_eq_true h2] at q2
    have HC:=(show Hid (∀W,Calls Tryz.prog 223 #[.string ⟨#[66,68,70,72,74,76,67,80,82,84,88,86,90,78,89,69,73,87,71,65,75,77,85,83,81,79]⟩,.int .u8 86] W fun e w'=>∃B,e=.returned (.agg (whl (spl kw3) (.slice (some ⟨B,0,none⟩) 1 1)))∧W.heap.size≤B∧NumsAt w' (.slice (some ⟨B,0,none⟩) 1 1) [Vg.num 86].length (fun i=>(([Vg.num 86].getD i 0:Nat):Int))∧Below W.heap.size W w') from fun W=>wheelOf_any ⟨kw3.toArray⟩ (ls_dec (by decide)) (by decide) 86 (by decide) W)
    clear h0 h1 h2 q3 q4
    go_enter Tryz.func191,Tryz.ntmps191
    go_wp2_with fail
    refine (HC.out _).mono ?_
    rintro e V ⟨B,rfl,hB,hn,hb⟩
    have HBB:Hid (w.heap.size≤B):=by rw[Hid];simp at hB;omega
    have hr1:=hr0.below hb hr0.lt
    have hb1:=hb0.trans (hb.mono hb0.size)
    have hlt:=hr0.lt
    have HN:=(show Hid _ from nums_row hn w.heap.size (whl (spl kw3) (.slice (some ⟨B,0,none⟩) 1 1)) (by intro e;injection e with e;exact absurd e (by show ¬B=w.heap.size;omega)))
    clear hb hr0 hb0 HC hz27 hn
    generalize spl kw3=f at *
    go_wp2_with (first | refine wpList_store_row rfl 97 _ _ rfl w.heap.size (whl f (.slice (some ⟨B,0,none⟩) 1 1)) rfl rfl 97 _ hr1 (by rw[whl_size];exact v_info_whl) (by simp only[whl_size]) (whl_one rfl) ?_)
    refine bodyPost_ret (v:=.tuple #[.agg (whl f (.slice (some ⟨B,0,none⟩) 1 1)),.int .i64 0]) (results_cell_tmp2 rfl _ _ w.heap.size 97 _ (0,0) _ _ rfl rfl (hr1.row _) Tryz.underlying97 rfl (by rw[whl_size];exact v_info_whl)) rfl ?_
    rw[HKW.out,HKE.out,HKN.out]
    exact ⟨_,rfl,HN.out,(fun a n c e=>by cases e;exact HBB.out),Below.setRow hb1 _ (Nat.le_refl _) _⟩
   ·rw[decide_eq_false h2] at q2
    by_cases h3:name.data.toList=[73,86]
    ·have HKW:Hid (knW name.data.toList=spl kw4):=by rw[Hid,h3];rfl
     have HKN:Hid (knN name.data.toList=[Vg.num 74]):=by rw[Hid,h3];rfl
     have HKE:Hid (knE name.data.toList=0):=by rw[Hid,h3];rfl
     rw[decide_eq_true h3] at q3
     have HC:=(show Hid (∀W,Calls Tryz.prog 223 #[.string ⟨#[69,83,79,86,80,90,74,65,89,81,85,73,82,72,88,76,78,70,84,71,75,68,67,77,87,66]⟩,.int .u8 74] W fun e w'=>∃B,e=.returned (.agg (whl (spl kw4) (.slice (some ⟨B,0,none⟩) 1 1)))∧W.heap.size≤B∧NumsAt w' (.slice (some ⟨B,0,none⟩) 1 1) [Vg.num 74].length (fun i=>(([Vg.num 74].getD i 0:Nat):Int))∧Below W.heap.size W w') from fun W=>wheelOf_any ⟨kw4.toArray⟩ (ls_dec (by decide)) (by decide) 74 (by decide) W)
     clear h0 h1 h2 h3 q4
     go_enter Tryz.func191,Tryz.ntmps191
     go_wp2_with fail
     refine (HC.out _).mono ?_
     rintro e V ⟨B,rfl,hB,hn,hb⟩
     have HBB:Hid (w.heap.size≤B):=by rw[Hid];simp at hB;omega
     have hr1:=hr0.below hb hr0.lt
     have hb1:=hb0.trans (hb.mono hb0.size)
     have hlt:=hr0.lt
     have HN:=(show Hid _ from nums_row hn w.heap.size (whl (spl kw4) (.slice (some ⟨B,0,none⟩) 1 1)) (by intro e;injection e with e;exact absurd e (by show ¬B=w.heap.size;omega)))
     clear hb hr0 hb0 HC hz27 hn
     generalize spl kw4=f at *
     go_wp2_with (first | refine wpList_store_row rfl 97 _ _ rfl w.heap.size (whl f (.slice (some ⟨B,0,none⟩) 1 1)) rfl rfl 97 _ hr1 (by rw[whl_size];exact v_info_whl) (by simp only[whl_size]) (whl_one rfl) ?_)
     refine bodyPost_ret (v:=.tuple #[.agg (whl f (.slice (some ⟨B,0,none⟩) 1 1)),.int .i64 0]) (results_cell_tmp2 rfl _ _ w.heap.size 97 _ (0,0) _ _ rfl rfl (hr1.row _) Tryz.underlying97 rfl (by rw[whl_size];exact v_info_whl)) rfl ?_
     rw[HKW.out,HKE.out,HKN.out]
     exact ⟨_,rfl,HN.out,(fun a n c e=>by cases e;exact HBB.out),Below.setRow hb1 _ (Nat.le_refl _) _⟩
    ·rw[decide_eq_false h3] at q3
     by_cases h4:name.data.toList=[86]
     ·have HKW:Hid (knW name.data.toList=spl kw5):=by rw[Hid,h4];rfl
      have HKN:Hid (knN name.data.toList=[Vg.num 90]):=by rw[Hid,h4];rfl
      have HKE:Hid (knE name.data.toList=0):=by rw[Hid,h4];rfl
      rw[decide_eq_true h4] at q4
      have HC:=(show Hid (∀W,Calls Tryz.prog 223 #[.string ⟨#[86,90,66,82,71,73,84,89,85,80,83,68,78,72,76,88,65,87,77,74,81,79,70,69,67,75]⟩,.int .u8 90] W fun e w'=>∃B,e=.returned (.agg (whl (spl kw5) (.slice (some ⟨B,0,none⟩) 1 1)))∧W.heap.size≤B∧NumsAt w' (.slice (some ⟨B,0,none⟩) 1 1) [Vg.num 90].length (fun i=>(([Vg.num 90].getD i 0:Nat):Int))∧Below W.heap.size W w') from fun W=>wheelOf_any ⟨kw5.toArray⟩ (ls_dec (by decide)) (by decide) 90 (by decide) W)
      clear h0 h1 h2 h3 h4
      go_enter Tryz.func191,Tryz.ntmps191
      go_wp2_with fail
      refine (HC.out _).mono ?_
      rintro e V ⟨B,rfl,hB,hn,hb⟩
      have HBB:Hid (w.heap.size≤B):=by rw[Hid];simp at hB;omega
      have hr1:=hr0.below hb hr0.lt
      have hb1:=hb0.trans (hb.mono hb0.size)
      have hlt:=hr0.lt
      have HN:=(show Hid _ from nums_row hn w.heap.size (whl (spl kw5) (.slice (some ⟨B,0,none⟩) 1 1)) (by intro e;injection e with e;exact absurd e (by show ¬B=w.heap.size;omega)))
      clear hb hr0 hb0 HC hz27 hn
      generalize spl kw5=f at *
      go_wp2_with (first | refine wpList_store_row rfl 97 _ _ rfl w.heap.size (whl f (.slice (some ⟨B,0,none⟩) 1 1)) rfl rfl 97 _ hr1 (by rw[whl_size];exact v_info_whl) (by simp only[whl_size]) (whl_one rfl) ?_)
      refine bodyPost_ret (v:=.tuple #[.agg (whl f (.slice (some ⟨B,0,none⟩) 1 1)),.int .i64 0]) (results_cell_tmp2 rfl _ _ w.heap.size 97 _ (0,0) _ _ rfl rfl (hr1.row _) Tryz.underlying97 rfl (by rw[whl_size];exact v_info_whl)) rfl ?_
      rw[HKW.out,HKE.out,HKN.out]
      exact ⟨_,rfl,HN.out,(fun a n c e=>by cases e;exact HBB.out),Below.setRow hb1 _ (Nat.le_refl _) _⟩
     ·rw[decide_eq_false h4] at q4
      have hnone:knI name.data.toList=none:=kn_none fun i hi e=>by
       rcases (by omega:i=0∨i=1∨i=2∨i=3∨i=4) with rfl | rfl | rfl | rfl | rfl
       ·exact h0 e.symm
       ·exact h1 e.symm
       ·exact h2 e.symm
       ·exact h3 e.symm
       ·exact h4 e.symm
      have HKW:Hid (knW name.data.toList=fun _=>0):=by unfold knW;rw[Hid,hnone]
      have HKN:Hid (knN name.data.toList=[]):=by unfold knN;rw[Hid,hnone]
      have HKE:Hid (knE name.data.toList=7):=by unfold knE;rw[Hid,hnone]
      clear h0 h1 h2 h3 h4 hnone
      go_enter Tryz.func191,Tryz.ntmps191
      go_wp2_with (first | refine wpList_build0 rfl 97 rfl _ built_whl0 ?_ | refine wpList_store_row rfl 97 _ _ rfl w.heap.size (whl (fun _=>0) (.slice none 0 0)) rfl rfl 97 _ hr0 (by rw[whl_size];exact v_info_whl) (by simp only[whl_size]) (whl_one rfl) ?_)
      refine bodyPost_ret (v:=.tuple #[.agg (whl (fun _=>0) (.slice none 0 0)),.int .i64 7]) (results_cell_tmp2 rfl _ _ w.heap.size 97 _ (0,0) _ _ rfl rfl (hr0.row _) Tryz.underlying97 rfl (by rw[whl_size];exact v_info_whl)) rfl ?_
      rw[HKW.out,HKE.out,HKN.out]
      exact ⟨_,rfl,⟨none,0,rfl,by decide,fun c hc=>by cases hc⟩,(fun a n c e=>by cases e),Below.setRow hb0 _ (Nat.le_refl _) _⟩
end Go.Proofs.YtkohhdkkbaifoaaGreatDoor

/-
  What lies in blocks from B to E alone; rows of wheels that are made so.
-/
namespace Go.Proofs.YtkohhdkkbaifoaaGreatDoor
open Go.RowKit PK Vg

def rws (f:Nat→Array Value):Nat→List Value
 | 0=>[]
 | k+1=>rws f k++(f k).toList
theorem rws_len {f:Nat→Array Value} {s:Nat}:∀{k:Nat},(∀i,i<k→(f i).size=s)→(rws f k).length=k*s
 | 0,_=>by simp[rws]
 | k+1,h=>by
  rw[rws,List.length_append,rws_len (fun i hi=>h i (by omega)),Array.length_toList,h k (by omega),Nat.succ_mul]
theorem rws_get {f:Nat→Array Value} {s:Nat}:∀{k:Nat},(∀i,i<k→(f i).size=s)→∀r,r<k→∀j v,(f r).toList[j]? = some v→(rws f k)[r*s+j]? = some v
 | 0,_,r,hr,_,_,_=>by omega
 | k+1,h,r,hr,j,v,hv=>by
  have hl:=rws_len (f:=f) (s:=s) (k:=k) (fun i hi=>h i (by omega))
  have hj:j<s:=by
   have:=(List.getElem?_eq_some_iff.1 hv).1
   rw[Array.length_toList,h r hr] at this
   exact this
  rw[rws]
  by_cases e:r=k
  ·subst e
   rw[List.getElem?_append_right (by omega),hl,Nat.add_sub_cancel_left]
   exact hv
  ·have h1:r*s+j<k*s:=by
    have:(r+1)*s≤k*s:=Nat.mul_le_mul_right s (by omega)
    rw[Nat.succ_mul] at this
    omega
   rw[List.getElem?_append_left (by omega)]
   exact rws_get (fun i hi=>h i (by omega)) r (by omega) j v hv
theorem own_step17 {w w':World} {B:Nat} {T:TypeId} {s n:Nat} {v:Value} {l:List Value} (h:w.ownsRow B T s v n l) (hb:Below w.heap.size w w'):w'.ownsRow B T s v n l:=by
 obtain ⟨h1,h2⟩:=h
 refine ⟨h1,?_⟩
 rcases h2 with h2 | ⟨g,cap,cur,e,hB,hg,h3⟩
 ·exact .inl h2
 ·exact .inr ⟨g,cap,cur,e,hB,(hb.block g (Array.getElem?_eq_some_iff.1 hg).1).trans hg,h3⟩
end Go.Proofs.YtkohhdkkbaifoaaGreatDoor
