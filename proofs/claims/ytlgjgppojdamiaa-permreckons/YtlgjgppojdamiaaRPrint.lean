/-
  Contracts of the document's own First and Print, of perm.Print where something is wrong, and of the statements' own same.
-/
import Derived.Test.YtlgjgppojdamiaaRType
import Derived.Test.YtlgjgppojdamiaaPPrint
namespace Go.Proofs.Ytlgjgppojdamiaa
open Go.RowKit PK

theorem enc_letter (x : Nat) (hx : x < 26) : Utf8.encode (65 + (x : Int)) = ⟨#[lb x]⟩ := by
  have h1 : Utf8.valid (65 + (x : Int)) = true := by simp [Utf8.valid]; omega
  have h2 : (65 + (x : Int)).toNat = 65 + x := by omega
  unfold Utf8.encode
  simp only [h1, h2, if_true]
  rw [if_pos (by omega)]
  rfl
theorem cat_enc (S : ByteArray) (x : Nat) (hx : x < 26) : (S ++ Utf8.encode (65 + (x : Int))).data.toList = S.data.toList ++ [lb x] := by
  rw [enc_letter x hx]; simp
theorem cat_any (S T : ByteArray) : (S ++ T).data.toList = S.data.toList ++ T.data.toList := by simp

/-- How many steps are left to i. -/
def leftTo (p : Nat → Nat) (i x : Nat) : Nat := ((List.range 27).find? fun t => Pm.iter p t x == i).getD 0
theorem left_iter {p : Nat → Nat} (hp : Pm.IsPerm p) (i : Nat) (hi : i < 26) (m : Nat) (h1 : 1 ≤ m) (h2 : m ≤ Pm.len p i) : leftTo p i (Pm.iter p m i) = Pm.len p i - m := by
  have hl := Pm.len_is hp i hi
  have hle := hl.le
  have htrue : Pm.iter p (Pm.len p i - m) (Pm.iter p m i) = i := by
    rw [← Pm.iter_add]
    have : Pm.len p i - m + m = Pm.len p i := by omega
    rw [this]; exact hl.ret
  unfold leftTo
  cases h : (List.range 27).find? fun t => Pm.iter p t (Pm.iter p m i) == i with
  | none =>
    have := List.find?_eq_none.1 h (Pm.len p i - m) (by simp; omega)
    simp [htrue] at this
  | some y =>
    have hy := List.find?_some h
    have hb := Pm.find_range _ _ _ h
    simp at hy ⊢
    have hle2 : y ≤ Pm.len p i - m := Nat.le_of_not_lt fun c => by
      have := hb _ c
      simp [htrue] at this
    by_cases e : y = Pm.len p i - m
    · exact e
    · rw [← Pm.iter_add] at hy
      exact absurd hy (hl.min (y + m) (by omega) (by omega))

set_option maxHeartbeats 1000000 in
theorem rfirst_any (p : Nat → Nat) (hp : Pm.IsPerm p) (i : Nat) (hi : i < 26) (w : World) :
    Calls Try.prog 52 #[.agg (ints 26 (Pm.up p)), .int .i64 (i : Nat)] w fun e w' => e = .returned (.bool (!Pm.met p i i)) ∧ Below w.heap.size w w' := by
  have hlen := Pm.len_is hp i hi
  go_enter Try.func52, Try.ntmps52
  have hc0 : (ints 26 (Pm.up p))[i]? = some (.int .i64 (p i : Nat)) := ints_get (Pm.up p) hi
  go_wp2
  have hrow := RowAt.new w 35 (ints 26 (Pm.up p))
  have hb : Below w.heap.size w (w.alloc (.cells (ints 26 (Pm.up p)) 35)) := (Below.refl _ _).alloc (Nat.le_refl _) _
  generalize w.alloc (.cells (ints 26 (Pm.up p)) 35) = W at hrow hb ⊢
  clear hc0
  go_loop [5] (fun a => ∃ m : Nat, 1 ≤ m ∧ m ≤ Pm.len p i ∧ a = .int .i64 (Pm.iter p m i : Nat) ∧ Hid (∀ j, 0 < j → j < m → i ≤ Pm.iter p j i)) (fun a => leftTo p i (intOf a).toNat)
  case atStart => exact ⟨1, Nat.le_refl _, hlen.pos, rfl, fun j h1 h2 => by omega⟩
  case round =>
    obtain ⟨m, hm1, hm2, rfl, HA⟩ := hrel
    have hx := Pm.iter_lt hp i hi m
    have hle := hlen.le
    by_cases hlt : m < Pm.len p i
    · have hne := hlen.min m (by omega) hlt
      have HS : Hid (Pm.iter p (m + 1) i = p (Pm.iter p m i)) := rfl
      have hbne : (((Pm.iter p m i : Nat) : Int) != ((i : Nat) : Int)) = true := by simp; omega
      have hc := hrow.cell (ints_get (Pm.up p) hx)
      simp only [Pm.up] at hc
      have HL1 : Hid (leftTo p i (Pm.iter p m i) = Pm.len p i - m) := left_iter hp i hi m hm1 hm2
      have HL2 : Hid (leftTo p i (Pm.iter p (m + 1) i) = Pm.len p i - (m + 1)) := left_iter hp i hi (m + 1) (by omega) (by omega)
      by_cases hsm : Pm.iter p m i < i
      · have HM : Hid (Pm.met p i i = true) := (Pm.met_iff p i i).2 ⟨Pm.iter p m i, hsm, Pm.cyc_symm hp _ i hi ((Pm.mem_cyc hp i hi _).2 ⟨m, rfl⟩)⟩
        generalize Pm.iter p m i = x at *
        clear hne
        go_wp2
        go_ret
        exact ⟨ret_bool (by rw [HM.out]; rfl), hb⟩
      · have HA2 : Hid (∀ j, 0 < j → j < m + 1 → i ≤ Pm.iter p j i) := fun j h1 h2 => by
          by_cases e : j = m
          · subst e; omega
          · exact HA.out j h1 (by omega)
        have HMS : Hid (leftTo p i (Pm.iter p (m + 1) i) < leftTo p i (Pm.iter p m i)) := by rw [Hid, HL1.out, HL2.out]; omega
        rw [HS.out] at HMS
        generalize Pm.iter p m i = x at *
        clear hne HL1 HL2
        go_wp2
        exact ⟨⟨m + 1, by omega, by omega, by rw [HS.out], HA2⟩, by simpa [intOf] using HMS.out⟩
    · have hret : Pm.iter p m i = i := by have : m = Pm.len p i := by omega
                                          rw [this]; exact hlen.ret
      have hbe : (((Pm.iter p m i : Nat) : Int) != ((i : Nat) : Int)) = false := by rw [hret]; simp
      have HM : Hid (Pm.met p i i = false) := by
        rw [Hid]
        cases hmt : Pm.met p i i with
        | false => rfl
        | true =>
          obtain ⟨j, hj, hji⟩ := (Pm.met_iff p i i).1 hmt
          obtain ⟨t, ht, e⟩ := List.mem_map.1 (Pm.cyc_symm hp i j (by omega) hji)
          simp at ht
          by_cases h0 : t = 0
          · subst h0
            have : i = j := e
            omega
          · have := HA.out t (by omega) (by omega)
            omega
      clear hret
      go_wp2
      go_ret
      exact ⟨ret_bool (by rw [HM.out]; rfl), hb⟩

set_option maxHeartbeats 1000000 in
theorem print_bad' (f : Nat → Int) (E : Int) (hE : (E != 0) = true) (hw : Pm.firstBad (fun _ => f) 1 = E) (w : World) :
    Calls Try.prog 29 #[.agg (ints 26 f)] w fun e w' => e = .returned (.tuple #[.string ⟨#[]⟩, .int .i64 E]) ∧ Below w.heap.size w w' := by
  have H0 : Hid (Pm.firstBad (fun _ => f) 1 = E) := hw
  clear hw
  go_enter Try.func29, Try.ntmps29
  go_wp2_with (first
    | refine wpList_load_row rfl 35 _ rfl w.heap.size rfl 35 (ints 26 f) (0, 0) _ (RowAt.new w _ _) Try.underlying35 rfl (by rw [ints_size]; exact info_perm) ?_
    | refine wpList_build1 rfl 76 35 _ rfl 26 f rfl (by decide) Try.underlying76 zero_perm (by decide) ?_)
  refine (firstWrong_any (fun _ => f) 1 (by decide) _ _ (by simp) (range_one (RowAt.newAt (by simp)))).mono ?_
  rintro e W1 ⟨rfl, hb0⟩
  obtain ⟨r1, hb1, hs1⟩ := after0 hb0
  clear hb0
  rw [H0.out]
  go_wp2
  go_ret2
  exact ⟨rfl, hb1⟩

set_option maxHeartbeats 1000000 in
theorem rprint_bad (f : Nat → Int) (E : Int) (hE : (E != 0) = true) (hw : Pm.wrong f = E) (w : World) :
    Calls Try.prog 30 #[.agg (ints 26 f)] w fun e w' => e = .returned (.tuple #[.string ⟨#[]⟩, .int .i64 E]) ∧ Below w.heap.size w w' := by
  have H0 : Hid (Pm.wrong f = E) := hw
  clear hw
  go_enter Try.func30, Try.ntmps30
  go_wp2_with (first | refine load_perm rfl _ rfl _ rfl _ (RowAt.new w _ _) ?_)
  refine (rwrong_any f _).mono ?_
  rintro e W1 ⟨rfl, hb0⟩
  obtain ⟨r1, hb1, hs1⟩ := boxed1 hb0
  clear hb0
  rw [H0.out]
  go_wp2
  go_ret2
  exact ⟨rfl, hb1⟩
end Go.Proofs.Ytlgjgppojdamiaa
