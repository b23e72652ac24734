/-
  Several texts, joined: QMath, YKit, YWrong, YFit, RMath.
-/
import Derived.Test.YtkohhdkkbaifoaaGreatDoorJn2
import Derived.Test.YtkohhdkkbaifoaaGreatDoorJn11
import Derived.Test.YtkohhdkkbaifoaaGreatDoorChecked
import Derived.Deep.OwnRows
import Derived.Test.YtkohhdkkbaifoaaGreatDoorJn1
/-
  Plain mathematics of no program: after how many times an order stands where it stood.
-/
namespace Go.Proofs.YtkohhdkkbaifoaaGreatDoor.Qm

def it (f : Nat → Nat) : Nat → Nat → Nat
  | 0, i => i
  | k + 1, i => f (it f k i)
/-- How many of the first n are not marked. -/
def left (g : Nat → Bool) : Nat → Nat
  | 0 => 0
  | n + 1 => left g n + (if g n then 0 else 1)
end Go.Proofs.YtkohhdkkbaifoaaGreatDoor.Qm

/-
  Plain mathematics of no program: what is wrong with an order.
-/
namespace Go.Proofs.YtkohhdkkbaifoaaGreatDoor
open Go.RowKit PK

/-- Is x among the first k numbers? -/
def metB (f : Nat → Int) (k x : Nat) : Bool := (List.range k).any fun j => f j == (x : Int)
theorem metB_iff (f : Nat → Int) (k x : Nat) : metB f k x = true ↔ ∃ j, j < k ∧ f j = x := by simp [metB]
theorem metB_succ (f : Nat → Int) (k x : Nat) : metB f (k + 1) x = (metB f k x || f k == (x : Int)) := by simp [metB, List.range_succ, List.any_append]
theorem metB_step (f : Nat → Int) (k : Nat) (h : 0 ≤ f k) : upd (metB f k) (f k).toNat true = metB f (k + 1) := by
  funext x
  rw [metB_succ]
  by_cases e : x = (f k).toNat
  · rw [e, upd_same]
    have : (f k == (((f k).toNat : Nat) : Int)) = true := by simp; omega
    rw [this, Bool.or_true]
  · rw [upd_other _ _ e]
    have : (f k == (x : Int)) = false := by simp; omega
    rw [this, Bool.or_false]
/-- What is wrong at place k of n. -/
def badO (n : Nat) (f : Nat → Int) (k : Nat) : Int := if f k < 0 ∨ (n : Int) ≤ f k then 3 else if metB f k (f k).toNat then 8 else 0
/-- What is wrong with an order. -/
def ordE (n : Nat) (f : Nat → Int) : Int := if 65536 < n then 5 else firstE (badO n f) n
structure GoodO (n : Nat) (f : Nat → Int) : Prop where
  le : n ≤ 65536
  lt : ∀ i, i < n → 0 ≤ f i ∧ f i < n
  inj : ∀ i j, i < n → j < n → f i = f j → i = j
theorem ordE_zero (n : Nat) (f : Nat → Int) : ordE n f = 0 ↔ GoodO n f := by
  unfold ordE
  by_cases h : 65536 < n
  · rw [if_pos h]
    exact ⟨fun h => (by cases h), fun hg => by have := hg.le; omega⟩
  · rw [if_neg h, firstE_zero]
    constructor
    · intro hb
      have h1 : ∀ i, i < n → (0 ≤ f i ∧ f i < n) ∧ metB f i (f i).toNat = false := fun i hi => by
        have := hb i hi
        unfold badO at this
        by_cases c : f i < 0 ∨ (n : Int) ≤ f i
        · rw [if_pos c] at this; cases this
        · rw [if_neg c] at this
          cases hm : metB f i (f i).toNat with
          | false => exact ⟨by omega, rfl⟩
          | true => rw [hm, if_pos rfl] at this; cases this
      have h2 : ∀ i j, i < j → j < n → f i ≠ f j := fun i j hij hj e => by
        have := (h1 j hj).2
        have h3 : metB f j (f j).toNat = true := (metB_iff _ _ _).2 ⟨i, hij, by have := (h1 j hj).1; omega⟩
        rw [h3] at this
        cases this
      refine ⟨by omega, fun i hi => (h1 i hi).1, fun i j hi hj e => ?_⟩
      rcases Nat.lt_trichotomy i j with c | c | c
      · exact absurd e (h2 i j c hj)
      · exact c
      · exact absurd e.symm (h2 j i c hi)
    · intro hg k hk
      unfold badO
      have hl := hg.lt k hk
      rw [if_neg (by omega)]
      cases hm : metB f k (f k).toNat with
      | false => rfl
      | true =>
        obtain ⟨j, hj, e⟩ := (metB_iff _ _ _).1 hm
        have := hg.inj j k (by omega) hk (by omega)
        omega
theorem ordE_cases (n : Nat) (f : Nat → Int) : (ordE n f = 0 ∧ GoodO n f) ∨ (ordE n f != 0) = true := by
  by_cases h : ordE n f = 0
  · exact .inl ⟨h, (ordE_zero n f).1 h⟩
  · exact .inr (by simpa using h)
theorem GoodO.of_order {n : Nat} {d : Nat → Int} (h : Sm.Order n d) (hn : n ≤ 65536) : GoodO n d := ⟨hn, h.lt, h.inj⟩
end Go.Proofs.YtkohhdkkbaifoaaGreatDoor

/-
  Contracts of rails.Wrong and of the document's.
-/
namespace Go.Proofs.YtkohhdkkbaifoaaGreatDoor
open Go.RowKit PK

theorem y_info_int : (Tryz.prog.info? 3).map (fun i => (i.zero, i.size, i.bytes)) = some (some (.int .i64 0), 1, 8) := by kernel_rfl
theorem y_info_bool : (Tryz.prog.info? 4).map (fun i => (i.zero, i.size, i.bytes)) = some (some (.bool false), 1, 1) := by kernel_rfl
theorem y_made_tab (z : Value) (n : Nat) : madeCells #[z] n = tab n fun _ => z := by
  unfold madeCells tab
  apply Array.ext
  · simp
  · intro i h1 h2
    simp [Nat.mod_one]
theorem bools_new (n : Nat) : (tab n fun _ => .bool false) = bools n fun _ => false := rfl
theorem ints_new (n : Nat) : (tab n fun _ => .int .i64 0) = ints n fun _ => 0 := rfl
set_option maxHeartbeats 1000000 in
theorem wrong_anyY (v : Value) (n : Nat) (f : Nat → Int) (w : World) (hv : NumsAt w v n f) :
    Calls Tryz.prog 167 #[v] w fun e w' => e = .returned (.int .i64 (ordE n f)) ∧ Below w.heap.size w w' := by
  by_cases h : 65536 < n
  · have HR : Hid (ordE n f = 5) := by rw [Hid]; unfold ordE; rw [if_pos h]
    obtain ⟨a, cap, rfl, _⟩ := hv.len
    have h2 : (65536 : Int) < (n : Int) := by omega
    clear hv
    go_enter Tryz.func167, Tryz.ntmps167
    go_wp2
    go_ret
    exact ⟨ret_int HR.out.symm, Below.refl _ _⟩
  · have HR : Hid (ordE n f = firstE (badO n f) n) := by rw [Hid]; unfold ordE; rw [if_neg h]
    have h2 : ¬ (65536 : Int) < (n : Int) := by omega
    have hmk := run_make_row' (P := Tryz.prog) 218 4 (.bool false) 1 Tryz.underlying218 y_info_bool rfl .i64 .i64 n (by omega) (by omega)
    rw [y_made_tab, bools_new] at hmk
    obtain ⟨a, cap, rfl, hm, hc⟩ := hv
    have HC := (show Hid _ from hc)
    clear hc
    go_enter Tryz.func167, Tryz.ntmps167
    go_wp2
    go_loopw [14] (fun i W => ∃ m : Nat, m ≤ n ∧ i = .int .i64 m ∧ Hid (firstE (badO n f) m = 0) ∧ RowAt W w.heap.size 4 (bools n (metB f m)) ∧ Below w.heap.size w W) (fun i _ => ((n : Int) - intOf i).toNat)
    case atStart => exact ⟨0, by omega, rfl, rfl, RowAt.new w _ _, (Below.refl _ _).alloc (Nat.le_refl _) _⟩
    case round =>
      obtain ⟨m, hm, rfl, HS, ro, hb⟩ := hrel
      by_cases hlt : m < n
      · obtain ⟨b, o, rfl, hc0⟩ := HC.out m hlt
        have HB : Hid (b < w.heap.size) := cell_block hc0
        have hc := (hb.cell (p := ⟨b, o + m, none⟩) HB.out).trans hc0
        clear hc0
        have HST := (show Hid _ from firstE_step _ m HS.out)
        by_cases hx : f m < 0 ∨ (n : Int) ≤ f m
        · have HV : Hid (ordE n f = 3) := by
            have h3 : firstE (badO n f) (m + 1) = 3 := by rw [HST.out]; unfold badO; rw [if_pos hx]
            rw [Hid, HR.out, firstE_keep _ (m + 1) (by rw [h3]; decide) n (by omega), h3]
          rcases hx with hx | hx
          · go_wp2
            go_ret
            exact ⟨ret_int HV.out.symm, hb⟩
          · have hx0 : ¬ f m < 0 := by omega
            go_wp2
            go_ret
            exact ⟨ret_int HV.out.symm, hb⟩
        · have h1 : ¬ f m < 0 := by omega
          have h3 : ¬ (n : Int) ≤ f m := by omega
          have HSP : Hid (upd (metB f m) (f m).toNat true = metB f (m + 1)) := metB_step f m (by omega)
          obtain ⟨x, hxe⟩ : ∃ x : Nat, f m = x := ⟨(f m).toNat, by omega⟩
          have hxt : (f m).toNat = x := by omega
          rw [hxt] at HSP
          have hbad : badO n f m = if metB f m x then 8 else 0 := by unfold badO; rw [if_neg hx, hxt]
          have hxn : x < n := by omega
          rw [hxe] at hc h1 h3
          have hcx := ro.cell (bools_get (metB f m) hxn)
          have hfx := ro.frozen x
          cases hmet : metB f m x with
          | true =>
            have HV : Hid (ordE n f = 8) := by
              have h3 : firstE (badO n f) (m + 1) = 8 := by rw [HST.out, hbad, hmet]; rfl
              rw [Hid, HR.out, firstE_keep _ (m + 1) (by rw [h3]; decide) n (by omega), h3]
            rw [hmet] at hcx
            clear hx hbad hxe hxt
            go_wp2
            go_ret
            exact ⟨ret_int HV.out.symm, hb⟩
          | false =>
            have HN : Hid (firstE (badO n f) (m + 1) = 0) := by rw [Hid, HST.out, hbad, hmet]; rfl
            rw [hmet] at hcx
            have ro2 : RowAt (wr.setCell ⟨w.heap.size, x, none⟩ (.bool true)) w.heap.size 4 (bools n (metB f (m + 1))) := by
              have := ro.set x (.bool true)
              rw [bools_set, HSP.out] at this
              exact this
            clear hx hbad hxe hxt
            go_wp2
            exact ⟨⟨m + 1, by omega, by go_num, HN, ro2, hb.setCell (by simp) _⟩, by simp [intOf]; omega⟩
      · have HE : Hid (ordE n f = 0) := by
          rw [Hid, HR.out]
          obtain rfl : m = n := by omega
          exact HS.out
        go_wp2
        go_ret
        exact ⟨ret_int HE.out.symm, hb⟩
end Go.Proofs.YtkohhdkkbaifoaaGreatDoor

/-
  Contracts of rails.misfit, put, back, Write and Read.
-/
namespace Go.Proofs.YtkohhdkkbaifoaaGreatDoor
open Go.RowKit PK

/-- What is wrong with an order and a text. -/
def fitE (n : Nat) (f : Nat → Int) (l : List UInt8) : Int := if ordE n f ≠ 0 then ordE n f else if ckE l ≠ 0 then ckE l else if n ≠ l.length then 8 else 0
theorem fitE_cases (n : Nat) (f : Nat → Int) (l : List UInt8) : (fitE n f l = 0 ∧ GoodO n f ∧ ckE l = 0 ∧ n = l.length ∧ l.length ≤ 65536 ∧ Pl.Lets l) ∨ (fitE n f l != 0) = true := by
  unfold fitE
  rcases ordE_cases n f with ⟨h1, h2⟩ | h1
  · rw [h1, if_neg (by simp)]
    rcases ck_cases l with ⟨h3, _, h4, h5⟩ | h3
    · rw [h3, if_neg (by simp)]
      by_cases h6 : n = l.length
      · rw [if_neg (by simpa using h6)]; exact .inl ⟨rfl, h2, rfl, h6, h4, h5⟩
      · rw [if_pos h6]; exact .inr rfl
    · rw [if_pos (by simpa using h3)]; exact .inr h3
  · rw [if_pos (by simpa using h1)]; exact .inr h1
set_option maxHeartbeats 1000000 in
theorem misfit_any (v : Value) (n : Nat) (f : Nat → Int) (s : ByteArray) (w : World) (hv : NumsAt w v n f) :
    Calls Tryz.prog 122 #[v, .string s] w fun e w' => e = .returned (.int .i64 (fitE n f s.data.toList)) ∧ Below w.heap.size w w' := by
  have HW : Hid (Calls Tryz.prog 167 #[v] w fun e w' => e = .returned (.int .i64 (ordE n f)) ∧ Below w.heap.size w w') := wrong_anyY v n f w hv
  have HCK := (show Hid (∀ W, Calls Tryz.prog 38 #[.string s] W fun e w' => e = .returned (.agg #[.int .i64 (ckE s.data.toList), .int .i64 (ckAt s.data.toList)]) ∧ Below W.heap.size W w') from fun W => check_all s W)
  have HF : Hid (fitE n f s.data.toList = if ordE n f ≠ 0 then ordE n f else if ckE s.data.toList ≠ 0 then ckE s.data.toList else if n ≠ s.size then 8 else 0) := by rw [Hid, Pl.size_len s]; rfl
  obtain ⟨a, cap, rfl, hm⟩ := hv.len
  generalize fitE n f s.data.toList = F at *
  generalize ordE n f = E1 at *
  generalize ckE s.data.toList = E2 at *
  generalize ckAt s.data.toList = A2 at *
  clear hv
  by_cases h1 : E1 = 0
  · subst h1
    by_cases h2 : E2 = 0
    · subst h2
      by_cases h3 : n = s.size
      · have HZ : Hid (F = 0) := by rw [Hid, HF.out]; simp [h3]
        subst h3
        go_enter Tryz.func122, Tryz.ntmps122
        go_wp2_with (first | (go_at_call 167; refine HW.out.mono ?_; rintro e W1 ⟨rfl, hb1⟩) | (go_at_call 38; refine (HCK.out _).mono ?_; rintro e W2 ⟨rfl, hb2⟩))
        go_ret
        exact ⟨ret_int HZ.out.symm, (hb1.trans (hb2.mono hb1.size)).alloc (by have := hb1.size; have := hb2.size; omega) _⟩
      · have HZ : Hid (F = 8) := by rw [Hid, HF.out]; simp [h3]
        have h4 : ((n : Int) == (s.size : Int)) = false := by simp; omega
        go_enter Tryz.func122, Tryz.ntmps122
        go_wp2_with (first | (go_at_call 167; refine HW.out.mono ?_; rintro e W1 ⟨rfl, hb1⟩) | (go_at_call 38; refine (HCK.out _).mono ?_; rintro e W2 ⟨rfl, hb2⟩))
        go_ret
        exact ⟨ret_int HZ.out.symm, (hb1.trans (hb2.mono hb1.size)).alloc (by have := hb1.size; have := hb2.size; omega) _⟩
    · have HZ : Hid (F = E2) := by rw [Hid, HF.out]; simp [h2]
      have h4 : (E2 == 0) = false := by simp; omega
      clear h2
      go_enter Tryz.func122, Tryz.ntmps122
      go_wp2_with (first | (go_at_call 167; refine HW.out.mono ?_; rintro e W1 ⟨rfl, hb1⟩) | (go_at_call 38; refine (HCK.out _).mono ?_; rintro e W2 ⟨rfl, hb2⟩))
      go_ret
      exact ⟨ret_int HZ.out.symm, (hb1.trans (hb2.mono hb1.size)).alloc (by have := hb1.size; have := hb2.size; omega) _⟩
  · have HZ : Hid (F = E1) := by rw [Hid, HF.out]; simp [h1]
    have h4 : (E1 == 0) = false := by simp; omega
    clear h1
    go_enter Tryz.func122, Tryz.ntmps122
    go_wp2_with (first | (go_at_call 167; refine HW.out.mono ?_; rintro e W1 ⟨rfl, hb1⟩))
    go_ret
    exact ⟨ret_int HZ.out.symm, hb1⟩
end Go.Proofs.YtkohhdkkbaifoaaGreatDoor

/-
  Plain mathematics of no program: lists that stand in order by keys; zigzags; columns.
-/
namespace Go.Proofs.YtkohhdkkbaifoaaGreatDoor.Sm

theorem nodup_len : ∀ (l m : List Nat), l.Nodup → (∀ x ∈ l, x ∈ m) → l.length ≤ m.length
  | [], m, _, _ => by simp
  | a :: t, m, h, hs => by
    have h1 := List.nodup_cons.1 h
    have ha : a ∈ m := hs a (by simp)
    have := nodup_len t (m.erase a) h1.2 (fun x hx => by
      have hne : x ≠ a := fun e => h1.1 (e ▸ hx)
      exact (List.mem_erase_of_ne hne).2 (hs x (by simp [hx])))
    rw [List.length_erase_of_mem ha] at this
    have hp : 0 < m.length := List.length_pos_of_mem ha
    simp only [List.length_cons]
    omega
theorem range_pw (n : Nat) : (List.range n).Pairwise (· < ·) := List.pairwise_lt_range
/-- On which rail letter i stands. -/
def railK (rails i : Nat) : Nat := if rails = 1 then 0 else min (i % (2 * (rails - 1))) (2 * (rails - 1) - i % (2 * (rails - 1)))
end Go.Proofs.YtkohhdkkbaifoaaGreatDoor.Sm
