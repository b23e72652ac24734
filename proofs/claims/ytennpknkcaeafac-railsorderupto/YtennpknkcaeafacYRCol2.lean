/-
  What the document's Columns and the program's come to: the same; and where something is wrong.
-/
import Derived.Test.YtennpknkcaeafacYRCol
namespace Go.Proofs.Ytennpknkcaeafac
open Go.RowKit PK Sm

set_option maxRecDepth 100000 in
set_option maxHeartbeats 2000000 in
theorem rcol_bad (n : Int) (s : ByteArray) (hE : colE n s.data.toList ≠ 0) (w : World) :
    Calls Try.prog 12 #[.int .i64 n, .string s] w fun e w' => e = .returned (.tuple #[.slice none 0 0, .int .i64 (colE n s.data.toList)]) ∧ Below w.heap.size w w' := by
  have HCK := (show Hid (∀ W, Calls Try.prog 33 #[.string s] W fun e w' => e = .returned (.agg #[.int .i64 (ckE s.data.toList), .int .i64 (ckAt s.data.toList)]) ∧ Below W.heap.size W w') from fun W => rcheck_all s W)
  have HF : Hid (colE n s.data.toList = if tlB n = false then 3 else if ckE s.data.toList ≠ 0 then ckE s.data.toList else if s.size < 1 ∨ 256 < s.size then 5 else 0) := by rw [Hid, Pl.size_len s]; rfl
  cases ht : tlB n with
  | false =>
    have HV : Hid (colE n s.data.toList = 3) := by rw [Hid, HF.out, ht]; rfl
    have hno := tlB_false ht
    clear hE ht HF HCK
    by_cases h1 : n < 0
    · clear hno
      go_enter Try.func12, Try.ntmps12
      go_wp2
      go_ret2
      exact ⟨by rw [HV.out]; rfl, Below.refl _ _⟩
    · have h2 : 65536 < n := by omega
      clear hno
      go_enter Try.func12, Try.ntmps12
      go_wp2
      go_ret2
      exact ⟨by rw [HV.out]; rfl, Below.refl _ _⟩
  | true =>
    have hyes := tlB_true ht
    have hn0 : ¬ n < 0 := by omega
    have hn6 : ¬ 65536 < n := by omega
    clear hyes
    rcases ck_cases s.data.toList with ⟨h3, h4, _, _⟩ | h3
    · rw [h3, h4] at HCK
      have HV0 : Hid (colE n s.data.toList = if s.size < 1 ∨ 256 < s.size then 5 else 0) := by rw [Hid, HF.out, ht, h3]; simp
      have h6 : s.size < 1 ∨ 256 < s.size := by
        apply Classical.byContradiction
        intro hno
        rw [HV0.out, if_neg hno] at hE
        exact hE rfl
      have HV : Hid (colE n s.data.toList = 5) := by rw [Hid, HV0.out, if_pos h6]
      clear hE ht HF HV0 h3 h4
      rcases h6 with h6 | h6
      · have h7 : (s.size : Int) < 1 := by omega
        go_enter Try.func12, Try.ntmps12
        go_wp2_with (go_at_call 33; refine (HCK.out _).mono ?_; rintro e W1 ⟨rfl, hb⟩)
        go_ret2
        exact ⟨by rw [HV.out]; rfl, hb.alloc hb.size _⟩
      · have h7 : ¬ (s.size : Int) < 1 := by omega
        have h8 : (256 : Int) < (s.size : Int) := by omega
        go_enter Try.func12, Try.ntmps12
        go_wp2_with (go_at_call 33; refine (HCK.out _).mono ?_; rintro e W1 ⟨rfl, hb⟩)
        go_ret2
        exact ⟨by rw [HV.out]; rfl, hb.alloc hb.size _⟩
    · have HV : Hid (colE n s.data.toList = ckE s.data.toList) := by rw [Hid, HF.out, ht, if_neg (by simp), if_pos (by simpa using h3)]
      generalize ckE s.data.toList = E2 at *
      generalize ckAt s.data.toList = A2 at *
      clear hE ht HF
      go_enter Try.func12, Try.ntmps12
      go_wp2_with (go_at_call 33; refine (HCK.out _).mono ?_; rintro e W1 ⟨rfl, hb⟩)
      go_region
      all_goals go_wp2
      go_ret2
      exact ⟨by rw [HV.out]; rfl, (hb.alloc hb.size _).drew⟩
/-- Columns' turns are in their order. -/
theorem turns_lt {l : List UInt8} {L : Nat} {t : Nat → Int} (h : Turns l L t) (hL : L ≤ 65536) {a b : Nat} (ha : a < L) (hb : b < L) (hlt : LL (keyL l) (a : Int) (b : Int)) : t a < t b := by
  obtain ⟨d, ho, hs, ht⟩ := h.ex
  have hg : GoodO L d := GoodO.of_order ho hL
  have h1 := hg.back.2 a ha
  have h2 := hg.back.2 b hb
  rw [ht, ht]
  apply Classical.byContradiction
  intro hno
  have h3 : LL (keyL l) (b : Int) (a : Int) ∨ a = b := by
    by_cases e : backF d L b = backF d L a
    · right
      have := h1.2.2
      rw [← e, h2.2.2] at this
      omega
    · left
      have := hs (backF d L b).toNat (backF d L a).toNat (by omega) (by omega) (by omega)
      rw [h1.2.2, h2.2.2] at this
      exact this
  rcases h3 with h3 | h3
  · exact (hlt.trans h3).irrefl
  · subst h3; exact hlt.irrefl
theorem mod_col {L k q : Nat} (hk : k < L) : (k + q * L) % L = k := by rw [Nat.add_mul_mod_self_right, Nat.mod_eq_of_lt hk]
theorem letL_mem {l : List UInt8} {n L c K : Nat} (hL : 1 ≤ L) (hK : K ≤ L) {x : Nat} : x ∈ letL l n L c K → x < n ∧ x % L < K ∧ (l.getD (x % L) 0).toNat = 65 + c := by
  intro h
  obtain ⟨k, hk, hx⟩ := List.mem_flatMap.1 h
  have hk' : k < K := by simpa using hk
  by_cases e : (l.getD k 0).toNat = 65 + c
  · rw [if_pos e] at hx
    obtain ⟨q, hq, rfl⟩ := List.mem_map.1 hx
    rw [mod_col (by omega)]
    exact ⟨(colN_iff hL q).1 (by simpa using hq), hk', e⟩
  · rw [if_neg e] at hx; cases hx
theorem allL_mem {l : List UInt8} {n L : Nat} (hL : 1 ≤ L) (hl : l.length = L) (hlet : Pl.Lets l) (x : Nat) : x ∈ allL l n L 26 ↔ x < n := by
  constructor
  · intro h
    obtain ⟨c, _, hx⟩ := List.mem_flatMap.1 h
    exact (letL_mem hL (Nat.le_refl L) hx).1
  · intro h
    have hk := Nat.mod_lt x (show 0 < L by omega)
    have hm : l.getD (x % L) 0 ∈ l := by
      have : l[x % L]? = some (l.getD (x % L) 0) := by simp [List.getD, List.getElem?_eq_getElem (show x % L < l.length by omega)]
      exact List.mem_of_getElem? this
    have hb := of_decide_eq_true (show decide _ = true from hlet _ hm)
    refine List.mem_flatMap.2 ⟨(l.getD (x % L) 0).toNat - 65, List.mem_range.2 (by omega), List.mem_flatMap.2 ⟨x % L, by simpa using hk, ?_⟩⟩
    rw [if_pos (by omega)]
    have e : x = x % L + x / L * L := by have := Nat.mod_add_div x L; rw [Nat.mul_comm] at this; exact this.symm
    refine List.mem_map.2 ⟨x / L, ?_, e.symm⟩
    have := (colN_iff (n := n) (k := x % L) hL (x / L)).2 (by rw [← e]; exact h)
    simpa using this
theorem allL_pw' {l : List UInt8} {n L : Nat} {t : Nat → Int} (hL : 1 ≤ L) (ht : ∀ a b : Nat, a < L → b < L → LL (keyL l) (a : Int) (b : Int) → t a < t b) (C : Nat) : (allL l n L C).Pairwise fun (x y : Nat) => LL (turnK L t) (x : Int) (y : Int) := by
  have hkey : ∀ x y : Nat, LL (keyL l) ((x % L : Nat) : Int) ((y % L : Nat) : Int) → LL (turnK L t) (x : Int) (y : Int) := fun x y h => by
    left
    show t ((x : Int).toNat % L) < t ((y : Int).toNat % L)
    rw [Int.toNat_natCast, Int.toNat_natCast]
    exact ht _ _ (Nat.mod_lt _ (by omega)) (Nat.mod_lt _ (by omega)) h
  unfold allL
  rw [List.pairwise_flatMap]
  refine ⟨fun c _ => ?_, ?_⟩
  · unfold letL
    rw [List.pairwise_flatMap]
    refine ⟨fun k hk => ?_, ?_⟩
    · have hk' : k < L := by simpa using hk
      by_cases e : (l.getD k 0).toNat = 65 + c
      · rw [if_pos e]
        unfold colJ
        rw [List.pairwise_map]
        refine (range_pw _).imp ?_
        intro a b hab
        right
        show t (((k + a * L : Nat) : Int).toNat % L) = t (((k + b * L : Nat) : Int).toNat % L) ∧ ((k + a * L : Nat) : Int) < ((k + b * L : Nat) : Int)
        rw [Int.toNat_natCast, Int.toNat_natCast, mod_col hk', mod_col hk']
        have := Nat.mul_lt_mul_of_pos_right hab (show 0 < L by omega)
        exact ⟨rfl, by omega⟩
      · rw [if_neg e]; exact List.Pairwise.nil
    · refine (range_pw L).imp_of_mem ?_
      intro k k' hk hk' hkk x hx y hy
      have hkL : k < L := by simpa using hk
      have hkL' : k' < L := by simpa using hk'
      by_cases e : (l.getD k 0).toNat = 65 + c
      · by_cases e' : (l.getD k' 0).toNat = 65 + c
        · rw [if_pos e] at hx
          rw [if_pos e'] at hy
          obtain ⟨q, _, rfl⟩ := List.mem_map.1 hx
          obtain ⟨q', _, rfl⟩ := List.mem_map.1 hy
          apply hkey
          rw [mod_col hkL, mod_col hkL']
          right
          show (((l.getD ((k : Int)).toNat 0).toNat : Nat) : Int) = (((l.getD ((k' : Int)).toNat 0).toNat : Nat) : Int) ∧ (k : Int) < (k' : Int)
          rw [Int.toNat_natCast, Int.toNat_natCast, e, e']
          exact ⟨rfl, by omega⟩
        · rw [if_neg e'] at hy; cases hy
      · rw [if_neg e] at hx; cases hx
  · refine (range_pw C).imp ?_
    intro c c' hcc x hx y hy
    have h1 := letL_mem hL (Nat.le_refl L) hx
    have h2 := letL_mem hL (Nat.le_refl L) hy
    apply hkey
    left
    show (((l.getD (((x % L : Nat) : Int)).toNat 0).toNat : Nat) : Int) < (((l.getD (((y % L : Nat) : Int)).toNat 0).toNat : Nat) : Int)
    rw [Int.toNat_natCast, Int.toNat_natCast, h1.2.2, h2.2.2]
    omega
theorem allL_pw {l : List UInt8} {n L : Nat} {t : Nat → Int} (hL : 1 ≤ L) (hL2 : L ≤ 65536) (ht : Turns l L t) (C : Nat) : (allL l n L C).Pairwise fun (x y : Nat) => LL (turnK L t) (x : Int) (y : Int) :=
  allL_pw' hL (fun _ _ ha hb h => turns_lt ht hL2 ha hb h) C
theorem allL_length {l : List UInt8} {n L : Nat} (hL : 1 ≤ L) (hL2 : L ≤ 65536) (hl : l.length = L) (hlet : Pl.Lets l) : (allL l n L 26).length = n :=
  (of_list (K := turnK L fun a => keyL l (a : Int) * 65536 + (a : Int)) (allL_pw' (n := n) hL (fun a b ha hb h => by
    show keyL l (a : Int) * 65536 + (a : Int) < keyL l (b : Int) * 65536 + (b : Int)
    rcases h with h | ⟨h1, h2⟩
    · omega
    · omega) 26) (fun x => allL_mem hL hl hlet x)).1
theorem col_list {l : List UInt8} {n L : Nat} {t d : Nat → Int} (hL : 1 ≤ L) (hL2 : L ≤ 65536) (hl : l.length = L) (hlet : Pl.Lets l) (ht : Turns l L t) (ho : Order n d) (hs : Srt (turnK L t) d 0 n) : (allL l n L 26).length = n ∧ ∀ i, i < n → d i = (((allL l n L 26).getD i 0 : Nat) : Int) := by
  have h := of_list (K := turnK L t) (allL_pw (n := n) hL hL2 ht 26) (fun x => allL_mem hL hl hlet x)
  exact ⟨h.1, fun i hi => srt_unique ho h.2.1 hs h.2.2 i hi⟩
end Go.Proofs.Ytennpknkcaeafac
