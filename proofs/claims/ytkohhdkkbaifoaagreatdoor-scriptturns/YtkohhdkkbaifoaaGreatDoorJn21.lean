/-
  Several texts, joined: ORKn, OAl, ORKw, RoKn, PFirst, PTaking, PSame.
-/
import Derived.Test.YtkohhdkkbaifoaaGreatDoorJn16
import Derived.Test.YtkohhdkkbaifoaaGreatDoorJn15
import Derived.Test.YtkohhdkkbaifoaaGreatDoorJn5
import Derived.Test.YtkohhdkkbaifoaaGreatDoorJn4
import Derived.Deep.QuietTactic
import Derived.BigQuiet
/-
  Contracts of the document's Spelt, Known and Mirror (chapter 8).
-/
namespace Go.Proofs.YtkohhdkkbaifoaaGreatDoor
open Go.RowKit PK Vg

/-- What a text of letters spells. -/
def spl (l : List UInt8) (i : Nat) : Int := if i < l.length then ((Vg.num (l.getD i 0) : Nat) : Int) else 0
def miB : List UInt8 := [89, 82, 85, 72, 81, 83, 76, 68, 80, 88, 78, 71, 79, 75, 77, 73, 69, 66, 70, 90, 67, 87, 86, 74, 65, 84]
def miC : List UInt8 := [70, 86, 80, 74, 73, 65, 79, 89, 69, 68, 82, 90, 88, 87, 71, 67, 84, 75, 85, 81, 83, 66, 78, 77, 72, 76]
/-- What Mirror says. -/
def miP (name : List UInt8) : Nat → Int := if name = [66] then spl miB else if name = [67] then spl miC else fun _ => 0
def miE (name : List UInt8) : Int := if name = [66] ∨ name = [67] then 0 else 7
theorem ls_dec {l : List UInt8} (h : (l.all fun c => decide (65 ≤ c.toNat ∧ c.toNat ≤ 90)) = true) : Ls l := fun c hc => by
  have := List.all_eq_true.1 h c hc
  simpa using this
theorem name_eq (A : List UInt8) (t : ByteArray) : (t.toList == A) = decide (t.data.toList = A) := by
  rw [ba_toList]
  by_cases h : t.data.toList = A
  · rw [decide_eq_true h, h]; simp
  · rw [decide_eq_false h]; exact beq_false_of_ne h
end Go.Proofs.YtkohhdkkbaifoaaGreatDoor

/-
  The machine that alive asks: I, II, III, mirror B.
-/
namespace Go.Proofs.YtkohhdkkbaifoaaGreatDoor
open Go.RowKit PK Vg

def kw1 : List UInt8 := [69, 75, 77, 70, 76, 71, 68, 81, 86, 90, 78, 84, 79, 87, 89, 72, 88, 85, 83, 80, 65, 73, 66, 82, 67, 74]
def kw2 : List UInt8 := [65, 74, 68, 75, 83, 73, 82, 85, 88, 66, 76, 72, 87, 84, 77, 67, 81, 71, 90, 78, 80, 89, 70, 86, 79, 69]
def kw3 : List UInt8 := [66, 68, 70, 72, 74, 76, 67, 80, 82, 84, 88, 86, 90, 78, 89, 69, 73, 87, 71, 65, 75, 77, 85, 83, 81, 79]
def kw4 : List UInt8 := [69, 83, 79, 86, 80, 90, 74, 65, 89, 81, 85, 73, 82, 72, 88, 76, 78, 70, 84, 71, 75, 68, 67, 77, 87, 66]
def kw5 : List UInt8 := [86, 90, 66, 82, 71, 73, 84, 89, 85, 80, 83, 68, 78, 72, 76, 88, 65, 87, 77, 74, 81, 79, 70, 69, 67, 75]
/-- What Known says of a name: what the letters go to, and the notch. -/
def knT : List (List UInt8 × List UInt8 × Nat) := [([73], kw1, 16), ([73, 73], kw2, 4), ([73, 73, 73], kw3, 21), ([73, 86], kw4, 9), ([86], kw5, 25)]
def knI (name : List UInt8) : Option (List UInt8 × List UInt8 × Nat) := knT.find? fun x => x.1 == name
def knW (name : List UInt8) : Nat → Int := match knI name with
  | some x => spl x.2.1
  | none => fun _ => 0
def knN (name : List UInt8) : List Nat := match knI name with
  | some x => [x.2.2]
  | none => []
def knE (name : List UInt8) : Int := match knI name with
  | some _ => 0
  | none => 7
end Go.Proofs.YtkohhdkkbaifoaaGreatDoor

/-
  Contract of the document's Known (chapter 8).
-/
namespace Go.Proofs.YtkohhdkkbaifoaaGreatDoor
open Go.RowKit PK Vg

theorem built_whl (f : Nat → Int) (a : Option Addr) (n c : Nat) : Tryz.prog.built 97 [(0, .agg (ints 26 f)), (1, .slice a n c)] = some (whl f (.slice a n c)) := by kernel_rfl
theorem built_whl0 : Tryz.prog.built 97 [] = some (whl (fun _ => 0) (.slice none 0 0)) := by kernel_rfl
theorem kn_none {name : List UInt8} (h : ∀ i, i < 5 → (knT.getD i ([], [], 0)).1 ≠ name) : knI name = none := by
  unfold knI
  rw [List.find?_eq_none]
  intro x hx hb
  obtain ⟨i, hi, e⟩ := List.mem_iff_getElem.1 hx
  have h1 := h i hi
  rw [List.getD_eq_getElem?_getD, List.getElem?_eq_getElem hi, e] at h1
  exact h1 (eq_of_beq hb)
theorem nums_row {W : World} {v : Value} {n : Nat} {f : Nat → Int} (h : NumsAt W v n f) (g : Nat) (c : Array Value) (hne : v.ownBlock ≠ some g) : NumsAt (W.setRow g c) v n f := by
  obtain ⟨a, cap, rfl, h2, h3⟩ := h
  refine ⟨a, cap, rfl, h2, fun i hi => ?_⟩
  obtain ⟨b, o, rfl, hcell⟩ := h3 i hi
  exact ⟨b, o, rfl, (cell_setRow_other W g c ⟨b, o + i, none⟩ (fun e => hne (congrArg some e))).trans hcell⟩
theorem nums_one (W : World) (x : Nat) : NumsAt (W.alloc (.cells #[.int .i64 (x : Nat)] 3)) (.slice (some ⟨W.heap.size, 0, none⟩) 1 1) [x].length (fun i => (([x].getD i 0 : Nat) : Int)) :=
  ⟨_, 1, rfl, (by decide : 1 ≤ maxLen), fun c hc => ⟨W.heap.size, 0, rfl, by
    have hc0 : c = 0 := by simpa using hc
    subst hc0
    exact (RowAt.new W 3 #[.int .i64 (x : Nat)]).cell rfl⟩⟩
end Go.Proofs.YtkohhdkkbaifoaaGreatDoor

/-
  Contracts of rotor.permOf, wheelOf, Known and Mirror.
-/
namespace Go.Proofs.YtkohhdkkbaifoaaGreatDoor
open Go.RowKit PK Vg

set_option maxRecDepth 100000 in
set_option maxHeartbeats 2000000 in
theorem permOf_any (s : ByteArray) (hl : Ls s.data.toList) (hs : s.size = 26) (w : World) : Calls Tryz.prog 224 #[.string s] w fun e w' => e = .returned (.agg (ints 26 (spl s.data.toList))) ∧ Below w.heap.size w w' := by
  have hz26 := o_zero v_zero_perm
  have h0 := TuAt.new w
  have HL := (show Hid (Ls s.data.toList) from hl)
  have hslen := Pl.size_len s
  go_enter Tryz.func224, Tryz.ntmps224
  go_wp2_with fail
  clear hz26
  go_loopw [5] (fun i V => ∃ k : Nat, k ≤ 26 ∧ i = .int .i64 (k : Nat) ∧ TuAt w V fun c => if c < k then spl s.data.toList c else 0) (fun i _ => ((26 : Int) - intOf i).toNat)
  case atStart => exact ⟨0, by omega, rfl, by simpa using h0⟩
  case round =>
    clear h0
    obtain ⟨k, hk, rfl, hg⟩ := hrel
    by_cases hlt : k < 26
    · have HLT : Hid (k < 26) := hlt
      have hk2 : (k : Int) < (s.size : Int) := by omega
      have hks : k < s.size := by omega
      have hxl := HL.out.at (getD_size hks)
      have hby : s[k] = s.data.toList.getD k 0 := (getD_byte s k hks).symm
      have hsp : spl s.data.toList k = ((Vg.num (s.data.toList.getD k 0) : Nat) : Int) := by unfold spl; rw [if_pos (by omega)]
      have HNX : Hid (∀ V, TuAt w V (fun c => if c < k then spl s.data.toList c else 0) → TuAt w (V.setCell ⟨w.heap.size + 1, k, none⟩ (.int .i64 (Vg.num (s.data.toList.getD k 0) : Nat))) fun c => if c < k + 1 then spl s.data.toList c else 0) := fun V hg => by
        have := hg.set k (Vg.num (s.data.toList.getD k 0) : Nat)
        have e : upd (fun c => if c < k then spl s.data.toList c else 0) k (Vg.num (s.data.toList.getD k 0) : Nat) = fun c => if c < k + 1 then spl s.data.toList c else 0 := by
          funext i
          unfold upd
          by_cases e : i = k
          · rw [if_pos e, if_pos (by omega), e, hsp]
          · rw [if_neg e]
            show (if i < k then spl s.data.toList i else 0) = _
            by_cases e2 : i < k
            · rw [if_pos e2, if_pos (by omega)]
            · rw [if_neg e2, if_neg (by omega)]
        rw [e] at this
        exact this
      clear hsp
      have hck := hg.o.cell (ints_get (fun c => if c < k then spl s.data.toList c else 0) hlt)
      have hfk := hg.o.frozen k
      generalize s.data.toList.getD k 0 = x at *
      have HX := (show Hid _ from hxl)
      have HG := (show Hid _ from HNX.out _ hg)
      clear hxl hg HNX
      go_wp2_with fail
      refine (number_any x HX.out _).mono ?_
      rintro e V ⟨rfl, rfl⟩
      generalize Vg.num x = nx at *
      clear hby
      go_wp2
      go_roundw
      case rel => exact ⟨k + 1, HLT.out, by go_num, HG.out⟩
      case measure => have := HLT.out; simp [intOf]; omega
    · obtain rfl : k = 26 := by omega
      have hr := hg.r
      have ho : RowAt wr (w.heap.size + 1) 27 (ints 26 (spl s.data.toList)) := by
        have := hg.o
        rw [ints_ext (g := spl s.data.toList) fun i hi => by rw [if_pos hi]] at this
        exact this
      have hbe := hg.below
      clear hg
      go_wp2_with (first | refine wpList_load_row rfl 27 _ rfl (w.heap.size + 1) rfl 27 (ints 26 (spl s.data.toList)) (0, 0) _ ho Tryz.underlying27 rfl (by rw [ints_size]; exact info_perm) ?_ | refine wpList_store_row rfl 27 _ _ rfl w.heap.size (ints 26 (spl s.data.toList)) rfl rfl 27 _ hr (by rw [ints_size]; exact info_perm) (by simp only [ints_size]) (ints_one _ _) ?_)
      exact bodyPost_ret (v := .agg (ints 26 (spl s.data.toList))) (o_results1 Tryz.results224 _ _ _ _ _ _ _ rfl (hr.row _) Tryz.underlying27 rfl (by rw [ints_size]; exact info_perm)) rfl ⟨rfl, Below.setRow hbe _ (Nat.le_refl _) _⟩
set_option maxRecDepth 100000 in
set_option maxHeartbeats 2000000 in
theorem wheelOf_any (s : ByteArray) (hl : Ls s.data.toList) (hs : s.size = 26) (x : UInt8) (hx : 65 ≤ x.toNat ∧ x.toNat ≤ 90) (w : World) : Calls Tryz.prog 223 #[.string s, .int .u8 (x.toNat : Nat)] w fun e w' => ∃ B, e = .returned (.agg (whl (spl s.data.toList) (.slice (some ⟨B, 0, none⟩) 1 1))) ∧ w.heap.size ≤ B ∧ NumsAt w' (.slice (some ⟨B, 0, none⟩) 1 1) [Vg.num x].length (fun i => (([Vg.num x].getD i 0 : Nat) : Int)) ∧ Below w.heap.size w w' := by
  have hz27 := o_zero v_zero_whl
  have hr0 := RowAt.new w 97 (whl (fun _ => 0) (.slice none 0 0))
  have hb0 : Below w.heap.size w (w.alloc (.cells (whl (fun _ => 0) (.slice none 0 0)) 97)) := (Below.refl _ w).alloc (Nat.le_refl _) _
  have HP := (show Hid (∀ W, Calls Tryz.prog 224 #[.string s] W fun e w' => e = .returned (.agg (ints 26 (spl s.data.toList))) ∧ Below W.heap.size W w') from fun W => permOf_any s hl hs W)
  have HX := (show Hid _ from hx)
  clear hx hl hs
  go_enter Tryz.func223, Tryz.ntmps223
  go_wp2_with fail
  refine (HP.out _).mono ?_
  rintro e V ⟨rfl, hb⟩
  have hr1 := hr0.below hb hr0.lt
  have hb1 := hb0.trans (hb.mono hb0.size)
  have hsz := hr1.lt
  clear hb hr0 hb0 HP hz27
  go_wp2_with fail
  refine (number_any x HX.out _).mono ?_
  rintro e V2 ⟨rfl, rfl⟩
  have HN := (show Hid _ from nums_one V (Vg.num x))
  have hr2 := hr1.alloc (.cells #[.int .i64 (Vg.num x : Nat)] 3)
  have hb2 := hb1.alloc hb1.size (.cells #[.int .i64 (Vg.num x : Nat)] 3)
  go_wp2_with (first | refine wpList_buildA rfl 97 [(0, .tmp 6), (1, .tmp 9)] rfl [(0, .agg (ints 26 (spl s.data.toList))), (1, .slice (some ⟨V.heap.size, 0, none⟩) 1 1)] rfl _ (built_whl (spl s.data.toList) _ 1 1) ?_ | refine wpList_store_row rfl 97 _ _ rfl w.heap.size (whl (spl s.data.toList) (.slice (some ⟨V.heap.size, 0, none⟩) 1 1)) rfl rfl 97 _ hr2 (by rw [whl_size]; exact v_info_whl) (by simp only [whl_size]) (whl_one rfl) ?_)
  exact bodyPost_ret (v := .agg (whl (spl s.data.toList) (.slice (some ⟨V.heap.size, 0, none⟩) 1 1))) (o_results1 Tryz.results223 _ _ _ _ _ _ _ rfl (hr2.row _) Tryz.underlying97 rfl (by rw [whl_size]; exact v_info_whl)) rfl ⟨V.heap.size, rfl, by omega, nums_row HN.out _ _ (by intro e; injection e with e; exact absurd e (by show ¬ V.heap.size = w.heap.size; omega)), Below.setRow hb2 _ (Nat.le_refl _) _⟩
set_option maxRecDepth 100000 in
set_option maxHeartbeats 1000000 in
theorem mirror_any (name : ByteArray) (w : World) : Calls Tryz.prog 193 #[.string name] w fun e w' => e = .returned (.tuple #[.agg (ints 26 (miP name.data.toList)), .int .i64 (miE name.data.toList)]) ∧ Below w.heap.size w w' := by
  have hz26 := o_zero v_zero_perm
  have hr0 := RowAt.new w 27 (ints 26 fun _ => 0)
  have hb0 : Below w.heap.size w (w.alloc (.cells (ints 26 fun _ => 0) 27)) := (Below.refl _ w).alloc (Nat.le_refl _) _
  have hB := (show Hid (∀ W, Calls Tryz.prog 224 #[.string ⟨#[89, 82, 85, 72, 81, 83, 76, 68, 80, 88, 78, 71, 79, 75, 77, 73, 69, 66, 70, 90, 67, 87, 86, 74, 65, 84]⟩] W fun e w' => e = .returned (.agg (ints 26 (spl miB))) ∧ Below W.heap.size W w') from fun W => permOf_any ⟨miB.toArray⟩ (ls_dec (by decide)) (by decide) W)
  have hC := (show Hid (∀ W, Calls Tryz.prog 224 #[.string ⟨#[70, 86, 80, 74, 73, 65, 79, 89, 69, 68, 82, 90, 88, 87, 71, 67, 84, 75, 85, 81, 83, 66, 78, 77, 72, 76]⟩] W fun e w' => e = .returned (.agg (ints 26 (spl miC))) ∧ Below W.heap.size W w') from fun W => permOf_any ⟨miC.toArray⟩ (ls_dec (by decide)) (by decide) W)
  have q1 := name_eq [66] name
  have q2 := name_eq [67] name
  by_cases h1 : name.data.toList = [66]
  · have HP : Hid (miP name.data.toList = spl miB) := by unfold miP; rw [Hid, if_pos h1]
    have HE : Hid (miE name.data.toList = 0) := by unfold miE; rw [Hid, if_pos (.inl h1)]
    rw [decide_eq_true h1] at q1
    clear h1 q2 hC
    go_enter Tryz.func193, Tryz.ntmps193
    go_wp2_with fail
    refine (hB.out _).mono ?_
    rintro e W1 ⟨rfl, hb⟩
    have hr1 := hr0.below hb hr0.lt
    have hb1 := hb0.trans (hb.mono hb0.size)
    clear hb hB hr0 hb0
    go_wp2_with (first | refine wpList_store_row rfl 27 _ _ rfl w.heap.size (ints 26 (spl miB)) rfl rfl 27 _ hr1 (by rw [ints_size]; exact info_perm) (by simp only [ints_size]) (ints_one _ _) ?_)
    exact bodyPost_ret (v := .tuple #[.agg (ints 26 (spl miB)), .int .i64 0]) (results_cell_tmp2 rfl _ _ w.heap.size 27 _ (0, 0) _ _ rfl rfl (hr1.row _) Tryz.underlying27 rfl (by rw [ints_size]; exact info_perm)) rfl ⟨by rw [HP.out, HE.out], Below.setRow hb1 _ (Nat.le_refl _) _⟩
  · rw [decide_eq_false h1] at q1
    by_cases h2 : name.data.toList = [67]
    · have HP : Hid (miP name.data.toList = spl miC) := by unfold miP; rw [Hid, if_neg h1, if_pos h2]
      have HE : Hid (miE name.data.toList = 0) := by unfold miE; rw [Hid, if_pos (.inr h2)]
      rw [decide_eq_true h2] at q2
      clear h1 h2 hB
      go_enter Tryz.func193, Tryz.ntmps193
      go_wp2_with fail
      refine (hC.out _).mono ?_
      rintro e W1 ⟨rfl, hb⟩
      have hr1 := hr0.below hb hr0.lt
      have hb1 := hb0.trans (hb.mono hb0.size)
      clear hb hC hr0 hb0
      go_wp2_with (first | refine wpList_store_row rfl 27 _ _ rfl w.heap.size (ints 26 (spl miC)) rfl rfl 27 _ hr1 (by rw [ints_size]; exact info_perm) (by simp only [ints_size]) (ints_one _ _) ?_)
      exact bodyPost_ret (v := .tuple #[.agg (ints 26 (spl miC)), .int .i64 0]) (results_cell_tmp2 rfl _ _ w.heap.size 27 _ (0, 0) _ _ rfl rfl (hr1.row _) Tryz.underlying27 rfl (by rw [ints_size]; exact info_perm)) rfl ⟨by rw [HP.out, HE.out], Below.setRow hb1 _ (Nat.le_refl _) _⟩
    · have HP : Hid (miP name.data.toList = fun _ => 0) := by unfold miP; rw [Hid, if_neg h1, if_neg h2]
      have HE : Hid (miE name.data.toList = 7) := by unfold miE; rw [Hid, if_neg (fun h => h.elim h1 h2)]
      rw [decide_eq_false h2] at q2
      clear h1 h2 hB hC
      have hr1 := hr0
      go_enter Tryz.func193, Tryz.ntmps193
      go_wp2_with (first | refine wpList_build0 rfl 27 rfl _ built_perm ?_ | refine wpList_store_row rfl 27 _ _ rfl w.heap.size (ints 26 fun _ => 0) rfl rfl 27 _ hr1 (by rw [ints_size]; exact info_perm) (by simp only [ints_size]) (ints_one _ _) ?_)
      exact bodyPost_ret (v := .tuple #[.agg (ints 26 fun _ => 0), .int .i64 7]) (results_cell_tmp2 rfl _ _ w.heap.size 27 _ (0, 0) _ _ rfl rfl (hr1.row _) Tryz.underlying27 rfl (by rw [ints_size]; exact info_perm)) rfl ⟨by rw [HP.out, HE.out], Below.setRow hb0 _ (Nat.le_refl _) _⟩
end Go.Proofs.YtkohhdkkbaifoaaGreatDoor

/-
  Contract of perm.firstWrong.
-/
namespace Go.Proofs.YtkohhdkkbaifoaaGreatDoor
open Go.RowKit PK

set_option maxHeartbeats 1000000 in
theorem firstWrong_anyP (fs : Nat → Nat → Int) (n : Nat) (hn : n ≤ 2) (b : Nat) (w : World) (hbw : b < w.heap.size) (hr : ∀ k, k < n → w.rangeAt b (k * 26) (ints 26 (fs k)).toList) :
    Calls Tryz.prog 194 #[.slice (some ⟨b, 0, none⟩) n n] w fun e w' => e = .returned (.int .i64 (Pm.firstBad fs n)) ∧ Below w.heap.size w w' := by
  have HR : Hid (∀ k, k < n → w.rangeAt b (k * 26) (ints 26 (fs k)).toList) := hr
  clear hr
  go_enter Tryz.func194, Tryz.ntmps194
  go_wp2
  go_loopw [8] (fun i W => ∃ k : Nat, k ≤ n ∧ i = .int .i64 k ∧ Hid (Pm.firstBad fs k = 0) ∧ Below w.heap.size w W) (fun i _ => (n - intOf i).toNat)
  case atStart => exact ⟨0, by omega, rfl, rfl, Below.refl _ _⟩
  case round =>
    obtain ⟨k, hk, rfl, HN, hb⟩ := hrel
    have hsz := hb.size
    by_cases hlt : k < n
    · have HC : Hid (wr.rangeAt b (k * 26) (ints 26 (fs k)).toList) := Below.rangeAt hb (HR.out k hlt) hbw
      have hX : Pm.wrong (fs k) = 0 ∨ (Pm.wrong (fs k) != 0) = true := by by_cases e : Pm.wrong (fs k) = 0 <;> simp [e]
      obtain ⟨x, hx⟩ : ∃ x, x = Pm.wrong (fs k) := ⟨_, rfl⟩
      rw [← hx] at hX
      have HX : Hid (x = Pm.wrong (fs k)) := hx
      clear hx
      have hcall : ∀ W : World, Calls Tryz.prog 114 #[.agg (ints 26 (fs k))] W fun e w' => e = .returned (.int .i64 x) ∧ Below W.heap.size W w' := fun W => by rw [HX.out]; exact wrong_any (fs k) W
      have HL : Hid (∀ W : World, Calls Tryz.prog 114 #[.agg (ints 26 (fs k))] W fun e w' => e = .returned (.int .i64 x) ∧ Below W.heap.size W w') := hcall
      clear hcall
      rcases hX with rfl | hX
      · go_wp2_with (first
          | refine wpList_load_mid rfl 27 _ rfl b (k * 26) rfl (ints 26 (fs k)).toList _ HC.out Tryz.underlying27 rfl (by rw [Array.length_toList, ints_size]; exact info_perm) ?_
          | (refine wpList_store_row rfl 27 _ _ rfl wr.heap.size (ints 26 (fs k)) rfl rfl 27 _ (RowAt.new wr _ _) (by rw [ints_size]; exact info_perm) (by rw [ints_size]; rfl) (ints_one _ _) ?_; rw [World.setRow_alloc_new])
          | refine wpList_load_row rfl 27 _ rfl wr.heap.size rfl 27 (ints 26 (fs k)) (0, 0) _ (RowAt.new wr _ _) Tryz.underlying27 rfl (by rw [ints_size]; exact info_perm) ?_
          | (go_at_call 114; refine (HL.out _).mono ?_; rintro e w1 ⟨rfl, hb1⟩))
        go_roundw
        case rel => exact ⟨k + 1, by omega, by go_num, by rw [Hid, Pm.firstBad_succ fs k HN.out]; exact HX.out.symm, (hb.alloc hsz _).trans (hb1.mono (by simp; omega))⟩
        case measure => simp [intOf]; omega
      · go_wp2_with (first
          | refine wpList_load_mid rfl 27 _ rfl b (k * 26) rfl (ints 26 (fs k)).toList _ HC.out Tryz.underlying27 rfl (by rw [Array.length_toList, ints_size]; exact info_perm) ?_
          | (refine wpList_store_row rfl 27 _ _ rfl wr.heap.size (ints 26 (fs k)) rfl rfl 27 _ (RowAt.new wr _ _) (by rw [ints_size]; exact info_perm) (by rw [ints_size]; rfl) (ints_one _ _) ?_; rw [World.setRow_alloc_new])
          | refine wpList_load_row rfl 27 _ rfl wr.heap.size rfl 27 (ints 26 (fs k)) (0, 0) _ (RowAt.new wr _ _) Tryz.underlying27 rfl (by rw [ints_size]; exact info_perm) ?_
          | (go_at_call 114; refine (HL.out _).mono ?_; rintro e w1 ⟨rfl, hb1⟩))
        go_ret
        exact ⟨ret_int (HX.out.trans (Pm.firstBad_stop fs k n HN.out (by rw [← HX.out]; simpa using hX) hlt).symm), (hb.alloc hsz _).trans (hb1.mono (by simp; omega))⟩
    · have HK : Hid (k = n) := by rw [Hid]; omega
      go_wp2
      go_ret
      exact ⟨ret_int (by rw [← HK.out]; exact HN.out.symm), hb⟩
end Go.Proofs.YtkohhdkkbaifoaaGreatDoor

/-
  Contract of perm.taking, for any pairP.
-/
namespace Go.Proofs.YtkohhdkkbaifoaaGreatDoor
open Go.RowKit PK

/-- The table that pairs fillP, one after the other. -/
def fillP (a : Nat → Nat) (v : Nat → Int) : Nat → Nat → Int
  | 0 => fun _ => 0
  | k + 1 => upd (fillP a v k) (a k) (v k)

set_option maxHeartbeats 1000000 in
theorem taking_anyP (m : Nat) (cap : Array Value) (a : Nat → Nat) (v : Nat → Int) (ha : ∀ i, i < 26 → a i < 26) (w : World) (hent : ∀ (args : Array Value) (W : World), (callFunc m args).run Tryz.prog W = .ok (.enter m args) W)
    (hp : ∀ i, i < 26 → ∀ W : World, Below w.heap.size w W → Calls Tryz.prog m (#[.int .i64 (i : Nat)] ++ cap) W fun e w' => e = .returned (.tuple #[.int .i64 (a i : Nat), .int .i64 (v i)]) ∧ Below W.heap.size W w') :
    Calls Tryz.prog 229 #[.func (.func m) #[] cap] w fun e w' => e = .returned (.agg (ints 26 (fillP a v 26))) ∧ Below w.heap.size w w' := by
  have HP : Hid (∀ i, i < 26 → ∀ W : World, Below w.heap.size w W → Calls Tryz.prog m (#[.int .i64 (i : Nat)] ++ cap) W fun e w' => e = .returned (.tuple #[.int .i64 (a i : Nat), .int .i64 (v i)]) ∧ Below W.heap.size W w') := hp
  clear hp
  go_enter Tryz.func229, Tryz.ntmps229
  go_wp2
  rw [zero26]
  go_loopw [7] (fun i W => ∃ k : Nat, k ≤ 26 ∧ i = .int .i64 k ∧ RowAt W w.heap.size 27 (ints 26 fun _ => 0) ∧ RowAt W (w.heap.size + 1) 27 (ints 26 (fillP a v k)) ∧ Below w.heap.size w W) (fun i _ => (26 - intOf i).toNat)
  case atStart =>
    refine ⟨0, by omega, rfl, (RowAt.new w _ _).alloc _, ?_, ((Below.refl _ _).alloc (Nat.le_refl _) _).alloc (by simp) _⟩
    have := RowAt.new (w.alloc (Obj.cells (ints 26 fun _ => 0) 27)) 27 (ints 26 fun x => 0)
    rw [World.size_alloc] at this
    exact this
  case round =>
    obtain ⟨k, hk, rfl, hrow0, hrow, hb⟩ := hrel
    by_cases hlt : k < 26
    · have ha' := ha k hlt
      have hsz := hb.size
      have h1 := hrow.lt
      have HW := HP.out k hlt wr hb
      have HV : Hid (Calls Tryz.prog m (#[.int .i64 (k : Nat)] ++ cap) wr fun e w' => e = .returned (.tuple #[.int .i64 (a k : Nat), .int .i64 (v k)]) ∧ Below wr.heap.size wr w') := HW
      clear HW
      obtain ⟨n, hn⟩ : ∃ n : Nat, n = a k := ⟨_, rfl⟩
      rw [← hn] at HV ha'
      have HNN : Hid (n = a k) := hn
      clear hn
      go_wp2_with fail
      refine HV.out.mono ?_
      rintro e w1 ⟨rfl, hb1⟩
      have hrow1 := hrow.below hb1 h1
      have hc := hrow1.cell (ints_get (fillP a v k) ha')
      have hf := hrow1.frozen n
      go_wp2
      go_roundw
      case rel =>
        refine ⟨k + 1, by omega, by go_num, ?_, ?_, ?_⟩
        · exact (hrow0.below hb1 hrow0.lt).setOther _ _ (by simp)
        · have := hrow1.set n (.int .i64 (v k))
          rw [ints_set] at this
          show RowAt _ _ _ (ints 26 (upd (fillP a v k) (a k) (v k)))
          rw [← HNN.out]
          exact this
        · exact (hb.trans (hb1.mono hsz)).setCell (by simp) _
      case measure => simp [intOf]; omega
    · have HK : Hid (k = 26) := by rw [Hid]; omega
      have h1 := hrow.lt
      go_wp2_with (first
        | refine wpList_load_row rfl 27 _ rfl (w.heap.size + 1) rfl 27 (ints 26 (fillP a v k)) (0, 0) _ hrow Tryz.underlying27 rfl (by rw [ints_size]; exact info_perm) ?_
        | refine wpList_store_row rfl 27 _ _ rfl w.heap.size (ints 26 (fillP a v k)) rfl rfl 27 _ hrow0 (by rw [ints_size]; exact info_perm) (by simp only [ints_size]) (ints_one _ _) ?_)
      refine bodyPost_ret (v := .agg (ints 26 (fillP a v k))) (results_cell_row rfl _ _ w.heap.size 27 _ (0, 0) _ rfl (hrow0.row _) Tryz.underlying27 rfl (by rw [ints_size]; exact info_perm)) rfl ⟨by rw [HK.out], Below.setRow hb _ (Nat.le_refl _) _⟩
end Go.Proofs.YtkohhdkkbaifoaaGreatDoor

/-
  Contract of perm.Same; what the calls of two arrays share.
-/
namespace Go.Proofs.YtkohhdkkbaifoaaGreatDoor
open Go.RowKit PK

theorem zero_permP : (Tryz.prog.info? 27).map (fun i => (i.zero, i.size)) = some (some (.agg (ints 26 fun _ => 0)), 26) := by kernel_rfl

theorem fill_atP (a : Nat → Nat) (v : Nat → Int) (hi : ∀ i j, i < 26 → j < 26 → a i = a j → i = j) : ∀ k, k ≤ 26 → ∀ i, i < k → fillP a v k (a i) = v i
  | 0, _, i, h => by omega
  | k + 1, hk, i, h => by
    show upd (fillP a v k) (a k) (v k) (a i) = v i
    by_cases e : i = k
    · subst e; simp
    · rw [upd_other _ _ (fun e2 => e (hi i k (by omega) (by omega) e2))]
      exact fill_atP a v hi k (by omega) i (by omega)
theorem fill_idP (v : Nat → Int) : ints 26 (fillP (fun i => i) v 26) = ints 26 v := ints_ext fun j hj => fill_atP (fun i => i) v (fun _ _ _ _ e => e) 26 (Nat.le_refl _) j hj
set_option maxHeartbeats 400000 in
theorem same1_anyP (i : Int) (w : World) : Calls Tryz.prog 230 #[.int .i64 i] w fun e w' => e = .returned (.tuple #[.int .i64 i, .int .i64 i]) ∧ w = w' := by
  go_enter Tryz.func230, Tryz.ntmps230
  go_wp2
  go_ret2
  exact ⟨rfl, rfl⟩

set_option maxHeartbeats 1000000 in
theorem same_anyP (w : World) : Calls Tryz.prog 202 #[] w fun e w' => e = .returned (.agg (ints 26 (Pm.up fun i => i))) ∧ Below w.heap.size w w' := by
  go_enter Tryz.func202, Tryz.ntmps202
  go_wp2_with fail
  rw [zero26]
  refine (taking_anyP 230 #[] (fun i => i) (Pm.up fun i => i) (fun _ h => h) _ (by intro args W; go_simp) (fun i hi W _ => (same1_anyP i W).mono ?_)).mono ?_
  · rintro e w' ⟨rfl, rfl⟩
    exact ⟨rfl, Below.refl _ _⟩
  · rintro e w1 ⟨rfl, hb1⟩
    rw [fill_idP]
    have hrow := (RowAt.new w 27 (ints 26 fun _ => 0)).below hb1 (by simp)
    go_wp2_with (refine wpList_store_row rfl 27 _ _ rfl w.heap.size (ints 26 (Pm.up fun i => i)) rfl rfl 27 _ hrow (by rw [ints_size]; exact info_perm) (by simp only [ints_size]) (ints_one _ _) ?_)
    exact bodyPost_ret (v := .agg (ints 26 (Pm.up fun i => i))) (results_cell_row rfl _ _ w.heap.size 27 _ (0, 0) _ rfl (hrow.row _) Tryz.underlying27 rfl (by rw [ints_size]; exact info_perm)) rfl ⟨rfl, Below.setRow (((Below.refl _ _).alloc (Nat.le_refl _) _).trans (hb1.mono (by simp))) _ (Nat.le_refl _) _⟩

/-- Two arrays, as those are given which a call looks over first. -/
def pairP (f g : Nat → Int) : Nat → Nat → Int := fun k => if k = 0 then f else g
theorem one_okP (p : Nat → Nat) (hp : Pm.IsPerm p) : Pm.firstBad (fun _ => Pm.up p) 1 = 0 := (Pm.firstBad_succ (fun _ => Pm.up p) 0 rfl).trans (Pm.wrong_up p hp)
theorem built_permP : Tryz.prog.built 27 [] = some (ints 26 fun _ => 0) := by kernel_rfl
end Go.Proofs.YtkohhdkkbaifoaaGreatDoor
