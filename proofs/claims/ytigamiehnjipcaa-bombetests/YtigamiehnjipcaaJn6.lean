/-
  Several texts, joined: BoGk, RoSm.
-/
import Derived.Test.YtigamiehnjipcaaBoM
import Derived.Test.YtigamiehnjipcaaRoTu
import Derived.Test.YtigamiehnjipcaaORNo
import Derived.Test.YtigamiehnjipcaaRoKit
import Derived.Test.YtigamiehnjipcaaJn4
import Derived.RegionTactic
/-
  Guesses in slices.
-/
namespace Go.Proofs.Ytigamiehnjipcaa
open Go.RowKit PK Vg

/-- The 28 cells of a guess. -/
def gsF (a b : Nat) (p : Nat → Int) : Nat → Int := fun i => if i = 0 then (a : Nat) else if i = 1 then (b : Nat) else p (i - 2)
theorem built_guess (a b : Nat) (p : Nat → Int) : Try.prog.built 54 [(0, .int .i64 (a : Nat)), (1, .int .i64 (b : Nat)), (2, .agg (ints 26 p))] = some (ints 28 (gsF a b p)) := by kernel_rfl
theorem b_info_guess : (Try.prog.info? 54).map (fun i => (i.zero, i.size, i.bytes)) = some (some (.agg (ints 28 fun _ => 0)), 28, 224) := by kernel_rfl
theorem b_zero_guess : (Try.prog.info? 54).map (fun i => (i.zero, i.size)) = some (some (.agg (ints 28 fun _ => 0)), 28) := by kernel_rfl
theorem b_size_guess : (Try.prog.info? 54).map (·.size) = some 28 := by kernel_rfl
/-- The cells of guesses, one behind the other. -/
def gl (g : Nat → Nat → Int) (L : List Nat) : Nat → Int := fun i => g (L.getD (i / 28) 0) (i % 28)
theorem gl_snoc (g : Nat → Nat → Int) (L : List Nat) (b : Nat) : (ints (L.length * 28) (gl g L)).toList ++ (ints 28 (g b)).toList = (ints ((L ++ [b]).length * 28) (gl g (L ++ [b]))).toList := by
  rw [← Array.toList_append]
  refine congrArg Array.toList ?_
  have hlen : (L ++ [b]).length = L.length + 1 := by simp
  rw [hlen]
  apply Array.ext_getElem?
  intro i
  by_cases h1 : i < L.length * 28
  · rw [Array.getElem?_append_left (by rw [ints_size]; exact h1), ints_get _ h1, ints_get _ (by omega)]
    unfold gl
    rw [List.getD_eq_getElem?_getD, List.getD_eq_getElem?_getD, List.getElem?_append_left (by omega)]
  · rw [Array.getElem?_append_right (by rw [ints_size]; omega), ints_size]
    by_cases h2 : i < (L.length + 1) * 28
    · rw [ints_get _ (by omega), ints_get _ h2]
      unfold gl
      rw [show i / 28 = L.length by omega, show i % 28 = i - L.length * 28 by omega, List.getD_eq_getElem?_getD, List.getElem?_append_right (by omega)]
      simp
    · rw [Array.getElem?_eq_none (by rw [ints_size]; omega), Array.getElem?_eq_none (by rw [ints_size]; omega)]
theorem at_intsN {n : Nat} {f : Nat → Int} {i : Nat} {v : Value} (h : (ints n f).toList[i]? = some v) : i < n ∧ v = .int .i64 (f i) := by
  have h1 := (List.getElem?_eq_some_iff.1 h).1
  rw [Array.length_toList, ints_size] at h1
  rw [Array.getElem?_toList, ints_get _ h1] at h
  exact ⟨h1, by cases h; rfl⟩
/-- Guesses that a slice owns. -/
def OwnsG (W : World) (B : Nat) (v : Value) (g : Nat → Nat → Int) (L : List Nat) : Prop := W.ownsRow B 54 28 v L.length (ints (L.length * 28) (gl g L)).toList
/-- Guesses behind a slice. -/
def GsAt (W : World) (v : Value) (g : Nat → Nat → Int) (L : List Nat) : Prop := ∃ (a : Option Addr) (cap : Nat), v = .slice a L.length cap ∧ ∀ j, j < L.length → ∃ b, a = some ⟨b, 0, none⟩ ∧ W.rangeAt b (j * 28) (ints 28 (g (L.getD j 0))).toList
theorem GsAt.below {W W' : World} {v : Value} {g : Nat → Nat → Int} {L : List Nat} (h : GsAt W v g L) (hb : Below W.heap.size W W') : GsAt W' v g L := by
  obtain ⟨a, cap, e, h1⟩ := h
  refine ⟨a, cap, e, fun j hj => ?_⟩
  obtain ⟨b, eb, h2⟩ := h1 j hj
  refine ⟨b, eb, fun i v hv => ?_⟩
  exact (hb.cell (p := ⟨b, j * 28 + i, none⟩) (cell_block (h2 i v hv))).trans (h2 i v hv)
theorem OwnsG.at {W : World} {B : Nat} {v : Value} {g : Nat → Nat → Int} {L : List Nat} (h : OwnsG W B v g L) : GsAt W v g L := by
  have h' : W.ownsRow B 54 28 v L.length (ints (L.length * 28) (gl g L)).toList := h
  rcases h'.2 with ⟨rfl, h0⟩ | ⟨b, cap, cur, rfl, hB, hg, hnc, hcm, hcs, htake⟩
  · exact ⟨none, 0, by rw [h0], fun j hj => by omega⟩
  · refine ⟨_, cap, rfl, fun j hj => ⟨b, rfl, fun i u hu => ?_⟩⟩
    obtain ⟨h1, rfl⟩ := at_intsN hu
    refine RowAt.cell (w := W) (b := b) (T := 54) hg ?_
    have h2 : (ints (L.length * 28) (gl g L)).toList[j * 28 + i]? = some (.int .i64 (g (L.getD j 0) i)) := by
      rw [Array.getElem?_toList, ints_get _ (by omega)]
      unfold gl
      rw [show (j * 28 + i) / 28 = j by omega, show (j * 28 + i) % 28 = i by omega]
    rw [← htake, List.getElem?_take_of_lt (by omega)] at h2
    simpa using h2
/-- The partners of the first k that are told. -/
def okTo (ok : Nat → Bool) (k : Nat) : List Nat := (List.range k).filter ok
theorem ok_yes {ok : Nat → Bool} {k : Nat} (h : ok k = true) : okTo ok (k + 1) = okTo ok k ++ [k] := by
  unfold okTo
  rw [List.range_succ, List.filter_append]
  simp [h]
theorem ok_no {ok : Nat → Bool} {k : Nat} (h : ok k = false) : okTo ok (k + 1) = okTo ok k := by
  unfold okTo
  rw [List.range_succ, List.filter_append]
  simp [h]
theorem ok_len (ok : Nat → Bool) (k : Nat) : (okTo ok k).length ≤ k := by
  have := List.length_filter_le ok (List.range k)
  unfold okTo
  simpa using this
end Go.Proofs.Ytigamiehnjipcaa

/-
  Contracts of rotor's small functions.
-/
namespace Go.Proofs.Ytigamiehnjipcaa
open Go.RowKit PK Vg

def isN (n : Int) : Bool := decide (0 ≤ n ∧ n ≤ 25)
set_option maxHeartbeats 400000 in
theorem isLetter8_any (c : Int) (w : World) : Calls Try.prog 80 #[.int .i64 c] w fun e w' => e = .returned (.bool (isN c)) ∧ w = w' := by
  by_cases h1 : 0 ≤ c
  · by_cases h2 : c < 26
    · have e : isN c = true := by simp [isN]; omega
      go_enter Try.func80, Try.ntmps80
      go_wp2
      go_ret
      exact ⟨by rw [e]; rfl, rfl⟩
    · have e : isN c = false := by simp [isN]; omega
      go_enter Try.func80, Try.ntmps80
      go_wp2
      go_ret
      exact ⟨rfl, rfl⟩
  · have e : isN c = false := by simp [isN]; omega
    go_enter Try.func80, Try.ntmps80
    go_wp2
    go_ret
    exact ⟨rfl, rfl⟩
set_option maxRecDepth 100000 in
set_option maxHeartbeats 1000000 in
theorem areLetters_any (v : Value) (n : Nat) (f : Nat → Int) (w : World) (hv : NumsAt w v n f) : Calls Try.prog 64 #[v] w fun e w' => e = .returned (.bool (ins n f)) ∧ w = w' := by
  obtain ⟨a, cap, rfl, hm, hc⟩ := hv
  have HC := (show Hid _ from hc)
  unfold maxLen at hm
  clear hc
  have HU := (show Hid (∀ k, k < n → (f k < 0 ∨ 25 < f k) → ins n f = false) from fun k hk h => ins_upto hk h)
  have HA := (show Hid ((∀ i, i < n → 0 ≤ f i ∧ f i ≤ 25) → ins n f = true) from (ins_iff n f).2)
  generalize ins n f = B at *
  go_enter Try.func64, Try.ntmps64
  go_wp2_with fail
  go_loopw [7] (fun i W => ∃ k : Nat, k ≤ n ∧ i = .int .i64 (k : Nat) ∧ Hid (∀ i, i < k → 0 ≤ f i ∧ f i ≤ 25) ∧ w = W) (fun i _ => ((n : Int) - intOf i).toNat)
  case atStart => exact ⟨0, by omega, rfl, fun i hi => by omega, rfl⟩
  case round =>
    obtain ⟨k, hk, rfl, HS, rfl⟩ := hrel
    by_cases hlt : k < n
    · obtain ⟨b, o, rfl, hc0⟩ := HC.out k hlt
      have HLT : Hid (k < n) := hlt
      by_cases hx : isN (f k) = true
      · have hx3 : 0 ≤ f k ∧ f k ≤ 25 := by simpa [isN] using hx
        have HN : Hid (∀ i, i < k + 1 → 0 ≤ f i ∧ f i ≤ 25) := fun i hi => by
          by_cases e : i = k
          · rw [e]; exact hx3
          · exact HS.out i (by omega)
        have HL := (show Hid (∀ W, Calls Try.prog 80 #[.int .i64 (f k)] W fun e w' => e = .returned (.bool true) ∧ W = w') from fun W => by have := isLetter8_any (f k) W; rw [hx] at this; exact this)
        clear hx hx3
        go_wp2_with fail
        refine (HL.out _).mono ?_
        rintro e V ⟨rfl, rfl⟩
        go_wp2_with fail
        go_roundw
        case rel => exact ⟨k + 1, HLT.out, by go_num, HN.out, by first | rfl | trivial⟩
        case measure => have := HLT.out; simp [intOf] <;> omega
      · have hx2 : isN (f k) = false := by simpa using hx
        have hx3 : f k < 0 ∨ 25 < f k := by
          have : ¬ (0 ≤ f k ∧ f k ≤ 25) := by simpa [isN] using hx
          omega
        have HB : Hid (B = false) := HU.out k hlt hx3
        have HL := (show Hid (∀ W, Calls Try.prog 80 #[.int .i64 (f k)] W fun e w' => e = .returned (.bool false) ∧ W = w') from fun W => by have := isLetter8_any (f k) W; rw [hx2] at this; exact this)
        clear hx hx2 hx3
        go_wp2_with fail
        refine (HL.out _).mono ?_
        rintro e V ⟨rfl, rfl⟩
        go_wp2
        go_ret
        exact ⟨by rw [HB.out]; rfl, rfl⟩
    · obtain rfl : k = n := by omega
      have hlt2 : ¬ (k : Int) < (k : Int) := by omega
      have HB : Hid (B = true) := HA.out HS.out
      go_wp2
      go_ret
      exact ⟨by rw [HB.out]; rfl, rfl⟩
set_option maxHeartbeats 400000 in
theorem number_any (c : UInt8) (h : 65 ≤ c.toNat ∧ c.toNat ≤ 90) (w : World) : Calls Try.prog 49 #[.int .u8 (c.toNat : Nat)] w fun e w' => e = .returned (.int .i64 (num c : Nat)) ∧ w = w' := by
  have e : (num c : Int) = (c.toNat : Int) - 65 := by unfold num; omega
  go_enter Try.func49, Try.ntmps49
  go_wp2
  go_ret
  exact ⟨by rw [e]; go_num, rfl⟩
set_option maxHeartbeats 400000 in
theorem letter_any (n : Nat) (h : n < 26) (w : World) : Calls Try.prog 47 #[.int .i64 (n : Nat)] w fun e w' => e = .returned (.int .u8 ((ltr n).toNat : Nat)) ∧ w = w' := by
  have e := ltr_toNat h
  go_enter Try.func47, Try.ntmps47
  go_wp2
  go_ret
  exact ⟨by rw [e]; go_num, rfl⟩
set_option maxHeartbeats 400000 in
theorem thr_any (b o : Nat) (p : Nat → Nat) (y c : Nat) (hy : y < 26) (hc : c < 26) (hp : ∀ c, c < 26 → p c < 26) (w : World) (hcell : ∀ c, c < 26 → w.cell? ⟨b, o + c, none⟩ = some (.int .i64 (p c : Nat))) : Calls Try.prog 73 #[.pointer (some ⟨b, o, none⟩), .int .i64 (y : Nat), .int .i64 (c : Nat)] w fun e w' => e = .returned (.int .i64 (Om.wheel p y c : Nat)) ∧ w = w' := by
  have hm : (c + y) % 26 < 26 := Nat.mod_lt _ (by decide)
  have h1 := hcell _ hm
  have h2 := hp _ hm
  have HE : Hid (Om.wheel p y c = (p ((c + y) % 26) + 26 - y) % 26) := rfl
  generalize Om.wheel p y c = E at *
  generalize p ((c + y) % 26) = P1 at *
  obtain ⟨q, hq⟩ : ∃ q, q = (c + y) % 26 := ⟨_, rfl⟩
  rw [← hq] at h1 hm
  have e1 : ((c : Int) + (y : Int)).tmod 26 = (q : Int) := by rw [Int.tmod_eq_emod_of_nonneg (by omega)]; omega
  have e2 : ((P1 : Int) - (y : Int) + 26).tmod 26 = (E : Int) := by rw [HE.out, Int.tmod_eq_emod_of_nonneg (by omega)]; omega
  clear HE hq hcell hp
  go_enter Try.func73, Try.ntmps73
  go_wp2
  go_ret
  exact ⟨rfl, rfl⟩
set_option maxHeartbeats 400000 in
theorem by_any (b q : Nat) (M : Om.Ma) (at' : Nat → Nat) (hq : q < M.n) (w : World) (h : RotAt w b M at') : Calls Try.prog 74 #[.pointer (some ⟨b, q * 80, none⟩)] w fun e w' => e = .returned (.int .i64 (Om.by' M at' q : Nat)) ∧ Below w.heap.size w w' := by
  have hw := h.window hq
  have hr := h.ring hq
  have h1 := h.ins q hq
  have h2 := h.ok.ri q hq
  have HE : Hid (Om.by' M at' q = (at' q + 26 - M.ri q) % 26) := rfl
  generalize Om.by' M at' q = E at *
  generalize at' q = A at *
  generalize M.ri q = R at *
  have e2 : ((A : Int) - (R : Int) + 26).tmod 26 = (E : Int) := by rw [HE.out, Int.tmod_eq_emod_of_nonneg (by omega)]; omega
  clear HE h
  go_enter Try.func74, Try.ntmps74
  go_wp2_with fail
  go_quiet (fail)
  go_wp2
  go_ret
  exact ⟨rfl, ⟨rfl, rfl, rfl, Nat.le_refl _, fun _ _ => rfl⟩⟩
end Go.Proofs.Ytigamiehnjipcaa
