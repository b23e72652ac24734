/-
  Several texts, joined: TPlain, TSmall, TKit, TCheck, TRefCheck, UCheck.
-/
import GoSem.Core.Utf8
import Derived.Test.YtkohhdkkbaifoaaGreatDoorChecked
import Derived.WalkKit
import Derived.WalkSpells
import Derived.WalkSmall
import Derived.Laws.BytesString
import Derived.Lib.AppendStr
import Derived.Lib.UnsafeStr
import Derived.Lib.OthersKept
import Derived.Lib.ConvBytes
/-
  The plain mathematics of chapter 1 (letters), over lists of bytes; nothing here speaks of a program.
-/
namespace Go.Proofs.YtkohhdkkbaifoaaGreatDoor.Pl

/-! ### What a rune is written as -/
def tab : List (Int × List UInt8) :=
  [(196, [65, 69]), (228, [65, 69]), (198, [65, 69]), (230, [65, 69]),
   (214, [79, 69]), (246, [79, 69]), (216, [79, 69]), (248, [79, 69]), (338, [79, 69]), (339, [79, 69]),
   (220, [85, 69]), (252, [85, 69]), (223, [83, 83]), (197, [65, 65]), (229, [65, 65]),
   (201, [69]), (233, [69]), (200, [69]), (232, [69]), (202, [69]), (234, [69]),
   (192, [65]), (224, [65]), (194, [65]), (226, [65]), (260, [65]), (261, [65]),
   (199, [67]), (231, [67]), (262, [67]), (263, [67]), (321, [76]), (322, [76]),
   (323, [78]), (324, [78]), (209, [78]), (241, [78]), (346, [83]), (347, [83]),
   (377, [90]), (378, [90]), (379, [90]), (380, [90]), (46, [88]), (63, [88]), (33, [88])]
def look (r : Int) : List (Int × List UInt8) → List UInt8
  | [] => []
  | p :: t => if (r == p.1) = true then p.2 else look r t
def spell (r : Int) : List UInt8 := look r tab
def foldRune (r : Int) : List UInt8 :=
  if 65 ≤ r ∧ r ≤ 90 then [UInt8.ofNat r.toNat]
  else if 97 ≤ r ∧ r ≤ 122 then [UInt8.ofNat (r - 32).toNat]
  else spell r

def isL (c : Int) : Bool := decide (65 ≤ c ∧ c ≤ 90)
def Lets (l : List UInt8) : Prop := ∀ c ∈ l, isL c.toNat = true

theorem look_all (P : List UInt8 → Prop) (h0 : P []) (r : Int) : ∀ t : List (Int × List UInt8), (∀ p ∈ t, P p.2) → P (look r t)
  | [], _ => h0
  | p :: t, h => by
    unfold look
    split
    · exact h p (by simp)
    · exact look_all P h0 r t (fun q hq => h q (by simp [hq]))

theorem spell_two (r : Int) : (spell r).length ≤ 2 := by
  apply look_all (fun l => l.length ≤ 2) (by simp)
  unfold tab
  decide
/-- Below 128 only marks that are written by one letter. -/
theorem look_low (r : Int) (hr : r < 128) : ∀ t : List (Int × List UInt8), (∀ p ∈ t, p.1 < 128 → p.2.length ≤ 1) → (look r t).length ≤ 1
  | [], _ => by simp [look]
  | p :: t, h => by
    unfold look
    split
    · rename_i e
      have e := eq_of_beq e
      exact h p (by simp) (by omega)
    · exact look_low r hr t (fun q hq => h q (by simp [hq]))
theorem spell_low (r : Int) (hr : r < 128) : (spell r).length ≤ 1 := by
  apply look_low r hr
  unfold tab
  decide
theorem foldRune_two (r : Int) : (foldRune r).length ≤ 2 := by
  unfold foldRune
  split
  · simp
  · split
    · simp
    · exact spell_two r
theorem foldRune_low (r : Int) (hr : r < 128) : (foldRune r).length ≤ 1 := by
  unfold foldRune
  split
  · simp
  · split
    · simp
    · exact spell_low r hr
theorem foldRune_error : foldRune 65533 = [] := by decide
/-! ### One rune off the head of a list of bytes -/
def byte (l : List UInt8) (k : Nat) : Nat := (l.getD k 0).toNat
def cont (l : List UInt8) (k : Nat) : Bool := decide (k < l.length) && byte l k / 64 == 2
def decL (l : List UInt8) : Nat × Nat :=
  let b0 := byte l 0
  if b0 < 0x80 then (b0, 1)
  else if b0 / 32 == 6 && cont l 1 then
    let c := (b0 % 32) * 64 + byte l 1 % 64
    if c ≥ 0x80 then (c, 2) else (0xFFFD, 1)
  else if b0 / 16 == 14 && (cont l 1 && cont l 2) then
    let c := (b0 % 16) * 4096 + (byte l 1 % 64) * 64 + byte l 2 % 64
    if c ≥ 0x800 && Utf8.valid c then (c, 3) else (0xFFFD, 1)
  else if b0 / 8 == 30 && (cont l 1 && cont l 2 && cont l 3) then
    let c := (b0 % 8) * 262144 + (byte l 1 % 64) * 4096 + (byte l 2 % 64) * 64 + byte l 3 % 64
    if c ≥ 0x10000 && Utf8.valid c then (c, 4) else (0xFFFD, 1)
  else (0xFFFD, 1)

theorem get!_eq (s : ByteArray) (i : Nat) : s.get! i = s.data.toList.getD i 0 := by
  cases s with
  | mk d =>
    show d[i]! = _
    by_cases h : i < d.size
    · simp [getElem!_pos, h, List.getD]
    · simp [getElem!_neg, h, List.getD]
      rfl
theorem size_len (s : ByteArray) : s.size = s.data.toList.length := by cases s; rfl
theorem decode_eq (s : ByteArray) (pos : Nat) : Utf8.decode s pos = decL (s.data.toList.drop pos) := by
  have hb : ∀ k, (s.get! (pos + k)).toNat = byte (s.data.toList.drop pos) k := by
    intro k
    rw [get!_eq, byte]
    simp [List.getD]
  have hc : ∀ k, (decide (pos + k < s.size) && byte (s.data.toList.drop pos) k / 64 == 2) = cont (s.data.toList.drop pos) k := by
    intro k
    unfold cont
    have e : decide (pos + k < s.size) = decide (k < (s.data.toList.drop pos).length) := by
      rw [size_len, List.length_drop]
      exact decide_eq_decide.2 (by omega)
    rw [e]
  unfold Utf8.decode decL
  simp only [hb, hc, Utf8.runeError, Bool.and_assoc]

theorem decL_pos (l : List UInt8) : 1 ≤ (decL l).2 := by
  unfold decL
  dsimp only
  repeat' split
  all_goals simp
theorem cont_lt {l : List UInt8} {k : Nat} (h : cont l k = true) : k < l.length := by
  unfold cont at h
  simp at h
  exact h.1
theorem decL_le (l : List UInt8) (h : l ≠ []) : (decL l).2 ≤ l.length := by
  have h1 : 1 ≤ l.length := by
    cases l with
    | nil => exact absurd rfl h
    | cons => simp
  unfold decL
  dsimp only
  split
  · exact h1
  split
  · rename_i e
    simp only [Bool.and_eq_true] at e
    have := cont_lt e.2
    split
    · show 2 ≤ _
      omega
    · exact h1
  split
  · rename_i e
    simp only [Bool.and_eq_true] at e
    have := cont_lt e.2.2
    split
    · show 3 ≤ _
      omega
    · exact h1
  split
  · rename_i e
    simp only [Bool.and_eq_true] at e
    have := cont_lt e.2.2
    split
    · show 4 ≤ _
      omega
    · exact h1
  · exact h1
/-- No rune is written longer than it is. -/
theorem decL_short (l : List UInt8) : (foldRune (decL l).1).length ≤ (decL l).2 := by
  have h2 : ∀ r : Int, (foldRune r).length ≤ 2 := foldRune_two
  have he : (foldRune ((0xFFFD : Nat) : Int)).length ≤ 1 := by
    show (foldRune 65533).length ≤ 1
    rw [foldRune_error]
    simp
  unfold decL
  dsimp only
  split
  · exact foldRune_low _ (by omega)
  split
  · split
    · exact h2 _
    · exact he
  split
  · split
    · exact Nat.le_trans (h2 _) (show 2 ≤ 3 by omega)
    · exact he
  split
  · split
    · exact Nat.le_trans (h2 _) (show 2 ≤ 4 by omega)
    · exact he
  · exact he

/-! ### Fold -/
def foldN : Nat → List UInt8 → List UInt8
  | 0, _ => []
  | n + 1, l => if l = [] then [] else foldRune (decL l).1 ++ foldN n (l.drop (decL l).2)
def fold (l : List UInt8) : List UInt8 := foldN l.length l

theorem foldN_enough : ∀ (n m : Nat) (l : List UInt8), l.length ≤ n → l.length ≤ m → foldN n l = foldN m l := by
  intro n
  induction n with
  | zero =>
    intro m l hn _
    have : l = [] := List.eq_nil_of_length_eq_zero (by omega)
    subst this
    cases m <;> simp [foldN]
  | succ n ih =>
    intro m l hn hm
    cases m with
    | zero =>
      have : l = [] := List.eq_nil_of_length_eq_zero (by omega)
      subst this
      simp [foldN]
    | succ m =>
      unfold foldN
      split
      · rfl
      · have := decL_pos l
        rw [ih m]
        · rw [List.length_drop]; omega
        · rw [List.length_drop]; omega
theorem fold_nil : fold [] = [] := rfl
theorem fold_step (l : List UInt8) (h : l ≠ []) : fold l = foldRune (decL l).1 ++ fold (l.drop (decL l).2) := by
  have hp := decL_pos l
  unfold fold
  cases hl : l.length with
  | zero => exact absurd (List.eq_nil_of_length_eq_zero hl) h
  | succ n =>
    rw [foldN, if_neg h]
    congr 1
    apply foldN_enough
    · rw [List.length_drop]; omega
    · exact Nat.le_refl _
theorem fold_drop (l : List UInt8) (pos : Nat) (h : pos < l.length) : fold (l.drop pos) = foldRune (decL (l.drop pos)).1 ++ fold (l.drop (pos + (decL (l.drop pos)).2)) := by
  rw [fold_step (l.drop pos) (by intro e; have := congrArg List.length e; simp at this; omega), List.drop_drop]
/-! ### Check -/
def bad (c : UInt8) : Bool := !isL c.toNat
def chkE (l : List UInt8) : Int := match l.findIdx? bad with | none => 0 | some _ => 2
def chkAt (l : List UInt8) : Int := match l.findIdx? bad with | none => 0 | some i => i
theorem chk_ok (l : List UInt8) (h : Lets l) : l.findIdx? bad = none := by
  rw [List.findIdx?_eq_none_iff]
  intro c hc
  simp [bad, h c hc]
theorem chk_all (l : List UInt8) (h : ∀ j (hj : j < l.length), isL (l[j].toNat) = true) : l.findIdx? bad = none := by
  apply chk_ok
  intro c hc
  obtain ⟨j, hj, rfl⟩ := List.getElem_of_mem hc
  exact h j hj
theorem chk_at (l : List UInt8) (k : Nat) (hk : k < l.length) (h : ∀ j (_ : j < k) (hj : j < l.length), isL (l[j].toNat) = true) (hb : isL (l[k].toNat) = false) : l.findIdx? bad = some k := by
  rw [List.findIdx?_eq_some_iff_getElem]
  refine ⟨hk, by simp [bad, hb], ?_⟩
  intro j hj
  simp [bad, h j hj (by omega)]

/-! ### Ungroup -/
def isLb (c : UInt8) : Bool := isL c.toNat
def gapB (c : UInt8) : Bool := c.toNat == 32 || c.toNat == 10
def badU (c : UInt8) : Bool := !isLb c && !gapB c
def ungE (l : List UInt8) : Int := match l.findIdx? badU with | some _ => 2 | none => if 65536 < (l.filter isLb).length then 4 else 0
def ungAt (l : List UInt8) : Int := match l.findIdx? badU with | some i => i | none => 0
def ungS (l : List UInt8) : List UInt8 := match l.findIdx? badU with | some _ => [] | none => if 65536 < (l.filter isLb).length then [] else l.filter isLb
theorem ung_bad (l : List UInt8) (k : Nat) (h : l.findIdx? badU = some k) : ungE l = 2 ∧ ungAt l = k ∧ ungS l = [] := by
  unfold ungE ungAt ungS
  rw [h]
  exact ⟨rfl, rfl, rfl⟩
theorem ung_long (l : List UInt8) (h : l.findIdx? badU = none) (hl : 65536 < (l.filter isLb).length) : ungE l = 4 ∧ ungAt l = 0 ∧ ungS l = [] := by
  unfold ungE ungAt ungS
  rw [h]
  dsimp only
  rw [if_pos hl, if_pos hl]
  exact ⟨rfl, rfl, rfl⟩
theorem ung_fit (l : List UInt8) (h : l.findIdx? badU = none) (hl : ¬ 65536 < (l.filter isLb).length) : ungE l = 0 ∧ ungAt l = 0 ∧ ungS l = l.filter isLb := by
  unfold ungE ungAt ungS
  rw [h]
  dsimp only
  rw [if_neg hl, if_neg hl]
  exact ⟨rfl, rfl, rfl⟩
theorem find_all (p : UInt8 → Bool) (l : List UInt8) (h : ∀ j (hj : j < l.length), p l[j] = false) : l.findIdx? p = none := by
  rw [List.findIdx?_eq_none_iff]
  intro c hc
  obtain ⟨j, hj, rfl⟩ := List.getElem_of_mem hc
  exact h j hj
theorem find_at (p : UInt8 → Bool) (l : List UInt8) (k : Nat) (hk : k < l.length) (h : ∀ j (_ : j < k) (hj : j < l.length), p l[j] = false) (hb : p l[k] = true) : l.findIdx? p = some k := by
  rw [List.findIdx?_eq_some_iff_getElem]
  refine ⟨hk, hb, ?_⟩
  intro j hj
  simp [h j hj (by omega)]
theorem take_snoc (l : List UInt8) (k : Nat) (h : k < l.length) : l.take (k + 1) = l.take k ++ [l[k]] := List.take_succ_eq_append_getElem h
theorem filter_snoc (l : List UInt8) (k : Nat) (h : k < l.length) : (l.take (k + 1)).filter isLb = (l.take k).filter isLb ++ (if isLb l[k] = true then [l[k]] else []) := by
  rw [take_snoc l k h, List.filter_append]
  congr 1
  simp [List.filter_cons]

/-! ### Group -/
def gapL (L W : Int) (i : Nat) : List UInt8 := if 0 < i ∧ (i : Int) % L = 0 then (if ((i : Int) / L) % W = 0 then [10] else [32]) else []
def grp (L W : Int) (l : List UInt8) : Nat → List UInt8
  | 0 => []
  | k + 1 => grp L W l k ++ gapL L W k ++ [l.getD k 0]
theorem gapL_one (L W : Int) (i : Nat) : (gapL L W i).length ≤ 1 := by
  unfold gapL
  repeat' split
  all_goals simp
theorem grp_le (L W : Int) (l : List UInt8) : ∀ k, (grp L W l k).length ≤ 2 * k
  | 0 => by simp [grp]
  | k + 1 => by
    have h1 := grp_le L W l k
    have h2 := gapL_one L W k
    simp only [grp, List.length_append, List.length_cons, List.length_nil]
    omega
theorem gapL_no (L W : Int) (i : Nat) (h : ¬ (0 < i ∧ (i : Int) % L = 0)) : gapL L W i = [] := if_neg h
theorem gapL_yes (L W : Int) (i : Nat) (h : 0 < i ∧ (i : Int) % L = 0) : gapL L W i = [UInt8.ofNat (if ((i : Int) / L) % W = 0 then 10 else 32 : Int).toNat] := by
  unfold gapL
  rw [if_pos h]
  split <;> rfl
end Go.Proofs.YtkohhdkkbaifoaaGreatDoor.Pl

/-
  The contract of letters.isLetter.
-/
namespace Go.Proofs.YtkohhdkkbaifoaaGreatDoor
open Go.RowKit

set_option maxHeartbeats 400000 in
theorem isLetter_any (c : Int) (w : World) :
    Calls Tryz.prog 61 #[.int .u8 c] w fun e w' => e = .returned (.bool (Pl.isL c)) ∧ w = w' := by
  by_cases h1 : 65 ≤ c
  · by_cases h2 : c ≤ 90
    · have e : Pl.isL c = true := by simp [Pl.isL]; omega
      go_enter Tryz.func61, Tryz.ntmps61
      go_wp2
      go_ret
      exact ⟨by rw [e]; rfl, rfl⟩
    · have e : Pl.isL c = false := by simp [Pl.isL]; omega
      go_enter Tryz.func61, Tryz.ntmps61
      go_wp2
      go_ret
      exact ⟨rfl, rfl⟩
  · have e : Pl.isL c = false := by simp [Pl.isL]; omega
    go_enter Tryz.func61, Tryz.ntmps61
    go_wp2
    go_ret
    exact ⟨rfl, rfl⟩

end Go.Proofs.YtkohhdkkbaifoaaGreatDoor

/-
  Laws of no program: bytes that a call owns, and what 'string(b)' makes of them.
-/
namespace Go.Proofs.YtkohhdkkbaifoaaGreatDoor.Kit
open Go.RowKit

/-- The slice v owns the bytes l, in blocks from B on (e: the byte type's number). -/
def Owns (w : World) (B : Nat) (e : TypeId) (v : Value) (l : List UInt8) : Prop := w.ownsRow B e 1 v l.length (Lib.byteCells l)

theorem foldl_push : ∀ (l : List UInt8) (s : ByteArray), (l.map fun b => (b.toNat : Int)).foldl (fun r n => r.push (UInt8.ofNat n.toNat)) s = ⟨s.data ++ l.toArray⟩
  | [], s => by cases s; simp
  | c :: t, s => by
    simp only [List.map_cons, List.foldl_cons]
    rw [foldl_push t]
    cases s
    simp [ByteArray.push]

theorem run_string_of_own {P : Program} (w : World) (src dst e : TypeId) (hs : P.underlying src = some (.slice e)) (he : P.underlying e = some (.int .u8)) (hd : P.underlying dst = some .string)
    {B : Nat} {v : Value} {l : List UInt8} (h : Owns w B e v l) : (convert src dst v).run P w = .ok (.string ⟨l.toArray⟩) w := by
  rcases h.2 with ⟨rfl, h0⟩ | ⟨g, cap, cur, rfl, _⟩
  · have : l = [] := List.eq_nil_of_length_eq_zero h0
    subst this
    rw [run_convert_bytes_string w src dst e _ _ _ hs he hd]
    simp [Conv.bytesToString, Sem.run_pure]
    rfl
  · rw [run_convert_bytes_string w src dst e _ _ _ hs he hd]
    have hl := run_loadCells_list (P := P) (w := w) ⟨g, 0, none⟩ (Lib.byteCells l) (h.cells rfl)
    rw [Lib.byteCells_length] at hl
    have e1 : Lib.byteCells l = (l.map fun b => (b.toNat : Int)).map (Value.int .u8) := by simp [Lib.byteCells]
    rw [e1] at hl
    rw [run_bytesToString w _ _ _ _ hl, foldl_push]
    simp

theorem Owns.nil (w : World) (B : Nat) (e : TypeId) : Owns w B e (.slice none 0 0) [] := World.ownsRow_nil w B e 1
theorem Owns.lt {w : World} {B : Nat} {e : TypeId} {v : Value} {l : List UInt8} (h : Owns w B e v l) : ∀ k, v.ownBlock = some k → B ≤ k ∧ k < w.heap.size := World.ownsRow.lt h
theorem Owns.kind {w : World} {B : Nat} {e : TypeId} {v : Value} {l : List UInt8} (h : Owns w B e v l) : ∀ g, v.ownBlock = some g → ∃ c fz, w.heap[g]? = some (.cells c e fz) := Lib.ownsRowF_kind (World.ownsRowF_of h)
/-- Behind a law on append: what is owned, and that below B and among the other blocks nothing has turned. -/
theorem Owns.grown {w W w' : World} {B : Nat} {e : TypeId} {v v' : Value} {l m : List UInt8} {n : Nat} {xs : List Value} (h : Owns W B e v l) (hBw : B ≤ W.heap.size) (hb : Below B w W) (hk : Lib.OthersKept e none w W)
    (h' : w'.ownsRow B e 1 v' n xs) (hn : n = (l ++ m).length) (hx : xs = Lib.byteCells (l ++ m)) (hg : W.grownBy w' v.ownBlock) :
    Owns w' B e v' (l ++ m) ∧ Below B w w' ∧ Lib.OthersKept e none w w' := by
  subst hn hx
  exact ⟨h', hb.grown hg hBw (fun k hk => (h.lt k hk).1), hk.grown hg h.kind⟩
theorem Owns.grownB {w W w' : World} {B : Nat} {e : TypeId} {v v' : Value} {l m : List UInt8} {n : Nat} {xs : List Value} (h : Owns W B e v l) (hBw : B ≤ W.heap.size) (hb : Below B w W)
    (h' : w'.ownsRow B e 1 v' n xs) (hn : n = (l ++ m).length) (hx : xs = Lib.byteCells (l ++ m)) (hg : W.grownBy w' v.ownBlock) :
    Owns w' B e v' (l ++ m) ∧ Below B w w' := by
  subst hn hx
  exact ⟨h', hb.grown hg hBw (fun k hk => (h.lt k hk).1)⟩
theorem byteCells_ofNat (c : Nat) (h : c < 256) : Lib.byteCells [UInt8.ofNat c] = [Value.int .u8 (c : Int)] := by
  simp [Lib.byteCells]
  omega
/-- What is owned stays owned while a string's iterator is moved on: an iterator's block holds no cells. -/
theorem Owns.iterAt {w : World} {B : Nat} {e : TypeId} {v : Value} {l : List UInt8} (h : Owns w B e v l) {k : Nat} {s : ByteArray} {pos : Nat} (hk : w.heap[k]? = some (.stringIter s pos)) (pos' : Nat) : Owns (w.iterAt k s pos') B e v l := by
  obtain ⟨h1, h2⟩ := h
  refine ⟨h1, ?_⟩
  rcases h2 with h2 | ⟨g, cap, cur, a, b, c, d⟩
  · exact .inl h2
  · have hkg : g ≠ k := by
      intro e1
      rw [e1, hk] at c
      cases c
    exact .inr ⟨g, cap, cur, a, b, (Lib.iterAt_other w k g s pos' hkg).trans c, d⟩
theorem kept_iter {e : TypeId} {w w' : World} (h : Lib.OthersKept e none w w') {k : Nat} {s : ByteArray} {pos : Nat} (hk : w.heap[k]? = some (.stringIter s pos)) : w'.heap[k]? = some (.stringIter s pos) :=
  h k _ hk (by simp) (fun _ _ e1 => by cases e1)
/-- A result's two cells, laid first: they read as they did in every later world that keeps what lies below the next block. -/
theorem two_cells {w W : World} {a b : Value} {T : TypeId} (h : Below (w.heap.size + 1) (w.alloc (.cells #[a, b] T)) W) :
    W.cell? ⟨w.heap.size, 0, none⟩ = some a ∧ W.cell? ⟨w.heap.size, 1, none⟩ = some b ∧ W.frozen? ⟨w.heap.size, 0, none⟩ = false ∧ W.frozen? ⟨w.heap.size, 1, none⟩ = false ∧ w.heap.size < W.heap.size := by
  have hs := h.size
  simp at hs
  refine ⟨?_, ?_, ?_, ?_, by omega⟩
  · rw [h.cell (p := ⟨w.heap.size, 0, none⟩) (by simp)]; simp
  · rw [h.cell (p := ⟨w.heap.size, 1, none⟩) (by simp)]; simp
  · rw [h.frozen (p := ⟨w.heap.size, 0, none⟩) (by simp)]; simp
  · rw [h.frozen (p := ⟨w.heap.size, 1, none⟩) (by simp)]; simp
/-- 'len' of what is owned. -/
theorem run_len_own {P : Program} (w : World) (t ty e : TypeId) (ht : P.underlying t = some (.slice e)) {B : Nat} {v : Value} {l : List UInt8} (h : Owns w B e v l) : (Builtin.len_ #[t] ty #[v]).run P w = .ok (.int .i64 l.length) w := by
  rcases h.2 with ⟨rfl, h0⟩ | ⟨g, cap, cur, rfl, _⟩
  · simp [Builtin.len_, run_underlying ht, goInt, h0]
  · simp [Builtin.len_, run_underlying ht, goInt]
theorem read_two {W : World} {N : Nat} {a' b' : Value} (a b : Value) (h0 : W.cell? ⟨N, 0, none⟩ = some a') (h1 : W.cell? ⟨N, 1, none⟩ = some b') :
    ((W.setCell ⟨N, 0, none⟩ a).setCell ⟨N, 1, none⟩ b).cell? ⟨N, 0, none⟩ = some a ∧ ((W.setCell ⟨N, 0, none⟩ a).setCell ⟨N, 1, none⟩ b).cell? ⟨N, 1, none⟩ = some b := by
  have e0 := World.cell?_setCell_same W ⟨N, 0, none⟩ a h0
  have e1 : (W.setCell ⟨N, 0, none⟩ a).cell? ⟨N, 1, none⟩ = some b' := (World.cell?_setCell_other W _ _ _ (by simp)).trans h1
  exact ⟨(World.cell?_setCell_other _ _ _ _ (by simp)).trans e0, World.cell?_setCell_same _ _ _ e1⟩
theorem below_two {w W : World} {a b : Value} {T : TypeId} (h : Below (w.heap.size + 1) (w.alloc (.cells #[a, b] T)) W) (x y : Value) :
    Below w.heap.size w ((W.setCell ⟨w.heap.size, 0, none⟩ x).setCell ⟨w.heap.size, 1, none⟩ y) :=
  ((((Below.refl _ w).alloc (Nat.le_refl _) _).trans (h.mono (by omega))).setCell (by simp) _).setCell (by simp) _
end Go.Proofs.YtkohhdkkbaifoaaGreatDoor.Kit

/-
  The contract of letters.Check.
-/
namespace Go.Proofs.YtkohhdkkbaifoaaGreatDoor
open Go.RowKit

set_option maxHeartbeats 400000 in
theorem check_much (s : ByteArray) (w : World) (h : 65536 < s.size) :
    Calls Tryz.prog 38 #[.string s] w fun e w' => e = .returned (.agg #[.int .i64 4, .int .i64 0]) ∧ Below w.heap.size w w' := by
  go_enter Tryz.func38, Tryz.ntmps38
  go_wp2
  exact bodyPost_ret (v := .agg #[.int .i64 4, .int .i64 0]) (by simp [results, Tryz.results38, go_sem]) rfl ⟨rfl, (Below.refl _ _).alloc (Nat.le_refl _) _⟩

theorem chk_some (l : List UInt8) (k : Nat) (h : l.findIdx? Pl.bad = some k) : Pl.chkE l = 2 ∧ Pl.chkAt l = k := by
  unfold Pl.chkE Pl.chkAt
  rw [h]
  exact ⟨rfl, rfl⟩
theorem chk_none (l : List UInt8) (h : l.findIdx? Pl.bad = none) : Pl.chkE l = 0 ∧ Pl.chkAt l = 0 := by
  unfold Pl.chkE Pl.chkAt
  rw [h]
  exact ⟨rfl, rfl⟩

set_option maxHeartbeats 1000000 in
theorem check_ok (s : ByteArray) (w : World) (h : s.size ≤ 65536) :
    Calls Tryz.prog 38 #[.string s] w fun e w' => e = .returned (.agg #[.int .i64 (Pl.chkE s.data.toList), .int .i64 (Pl.chkAt s.data.toList)]) ∧ Below w.heap.size w w' := by
  have hb : decide (65536 < (s.size : Int)) = false := by simp; omega
  have HL : Hid (s.size = s.data.toList.length) := Pl.size_len s
  go_enter Tryz.func38, Tryz.ntmps38
  go_wp2
  go_loop [10] (fun i => ∃ k : Nat, k ≤ s.size ∧ i = .int .i64 k ∧ Hid (∀ j (_ : j < k) (hj : j < s.data.toList.length), Pl.isL (s.data.toList[j].toNat) = true)) (fun i => s.size - (intOf i).toNat)
  case atStart => exact ⟨0, Nat.zero_le _, rfl, fun j hj => by omega⟩
  case round =>
    obtain ⟨k, hk, rfl, HA⟩ := hrel
    by_cases hlt : k < s.size
    · cases hl : Pl.isL (s[k].toNat : Int)
      · have HE : Hid (s.data.toList.findIdx? Pl.bad = some k) := Pl.chk_at _ k (by have := HL.out; omega) HA.out hl
        go_wp2_with (go_at_call 61; refine (isLetter_any _ _).mono ?_; rintro e w' ⟨rfl, rfl⟩)
        refine bodyPost_ret (v := .agg #[.int .i64 2, .int .i64 k]) (by simp [results, Tryz.results38, go_sem]) rfl ⟨?_, (Below.refl _ _).alloc (Nat.le_refl _) _⟩
        rw [(chk_some _ _ HE.out).1, (chk_some _ _ HE.out).2]
      · have HE : Hid (∀ j (_ : j < k + 1) (hj : j < s.data.toList.length), Pl.isL (s.data.toList[j].toNat) = true) := by
          intro j hj hj'
          rcases Nat.lt_or_ge j k with h1 | h1
          · exact HA.out j h1 hj'
          · have : j = k := by omega
            subst this
            exact hl
        go_wp2_with (go_at_call 61; refine (isLetter_any _ _).mono ?_; rintro e w' ⟨rfl, rfl⟩)
        exact ⟨⟨k + 1, by omega, by go_num, HE⟩, by simp [intOf]; omega⟩
    · have HE : Hid (s.data.toList.findIdx? Pl.bad = none) := Pl.chk_all _ fun j hj => HA.out j (by have := HL.out; omega) hj
      go_wp2
      refine bodyPost_ret (v := .agg #[.int .i64 0, .int .i64 0]) (by simp [results, Tryz.results38, go_sem]) rfl ⟨?_, (Below.refl _ _).alloc (Nat.le_refl _) _⟩
      rw [(chk_none _ HE.out).1, (chk_none _ HE.out).2]
end Go.Proofs.YtkohhdkkbaifoaaGreatDoor

/-
  The contract of the document's own Check: it answers as the program's.
-/
namespace Go.Proofs.YtkohhdkkbaifoaaGreatDoor
open Go.RowKit

end Go.Proofs.YtkohhdkkbaifoaaGreatDoor

/-
  What Check and the document's say of any text.
-/
namespace Go.Proofs.YtkohhdkkbaifoaaGreatDoor
open Go.RowKit

/-- What Check says. -/
def ckE (t : List UInt8) : Int := if 65536 < t.length then 4 else Pl.chkE t
def ckAt (t : List UInt8) : Int := if 65536 < t.length then 0 else Pl.chkAt t
theorem check_all (s : ByteArray) (w : World) : Calls Tryz.prog 38 #[.string s] w fun e w' => e = .returned (.agg #[.int .i64 (ckE s.data.toList), .int .i64 (ckAt s.data.toList)]) ∧ Below w.heap.size w w' := by
  unfold ckE ckAt
  have hl := Pl.size_len s
  by_cases h : 65536 < s.size
  · rw [if_pos (by omega), if_pos (by omega)]; exact check_much s w h
  · rw [if_neg (by omega), if_neg (by omega)]; exact check_ok s w (by omega)
theorem ck_cases (t : List UInt8) : (ckE t = 0 ∧ ckAt t = 0 ∧ t.length ≤ 65536 ∧ Pl.Lets t) ∨ (ckE t != 0) = true := by
  unfold ckE ckAt
  by_cases h : 65536 < t.length
  · rw [if_pos h]; exact .inr rfl
  · rw [if_neg h, if_neg h]
    cases hf : t.findIdx? Pl.bad with
    | none =>
      refine .inl ⟨(chk_none t hf).1, (chk_none t hf).2, by omega, fun c hc => ?_⟩
      have := List.findIdx?_eq_none_iff.1 hf c hc
      simpa [Pl.bad] using this
    | some k => exact .inr (by rw [(chk_some t k hf).1]; rfl)
theorem getD_byte (s : ByteArray) (k : Nat) (hk : k < s.size) : s.data.toList.getD k 0 = s[k] := by
  have hk' : k < s.data.toList.length := by have := Pl.size_len s; omega
  simp only [List.getD, List.getElem?_eq_getElem hk']
  rfl
end Go.Proofs.YtkohhdkkbaifoaaGreatDoor
