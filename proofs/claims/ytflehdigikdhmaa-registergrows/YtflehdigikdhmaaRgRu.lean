/-
  Contracts of the document's fair, Run and Same (chapter 11).
-/
import Derived.Test.YtflehdigikdhmaaRgK
import Derived.Test.YtflehdigikdhmaaRgM
namespace Go.Proofs.Ytflehdigikdhmaa
open Go.RowKit PK

/-- Bits alone. -/
def Fair (n : Nat) (f : Nat → Int) : Prop := ∀ i, i < n → f i = 0 ∨ f i = 1
def frB (n : Nat) (f : Nat → Int) : Bool := (List.range n).all fun i => decide (f i = 0 ∨ f i = 1)
theorem frB_iff (n : Nat) (f : Nat → Int) : frB n f = true ↔ Fair n f := by
  unfold frB Fair
  rw [List.all_eq_true]
  exact ⟨fun h i hi => by simpa using h i (by simpa using hi), fun h i hi => by simpa using h i (by simpa using hi)⟩
theorem frB_false {n : Nat} {f : Nat → Int} {i : Nat} (hi : i < n) (h : ¬ (f i = 0 ∨ f i = 1)) : frB n f = false := by
  rw [Bool.eq_false_iff]
  intro e
  exact h ((frB_iff n f).1 e i hi)
set_option maxRecDepth 100000 in
set_option maxHeartbeats 1000000 in
theorem rfair_any (v : Value) (n : Nat) (f : Nat → Int) (w : World) (hv : NumsAt w v n f) : Calls Try.prog 17 #[v] w fun e w' => e = .returned (.bool (frB n f)) ∧ Below w.heap.size w w' := by
  obtain ⟨a, c, rfl, hm, hc⟩ := hv
  have HC := (show Hid _ from hc)
  unfold maxLen at hm
  clear hc
  go_enter Try.func17, Try.ntmps17
  go_wp2_with fail
  go_loopw [7] (fun i W => ∃ k : Nat, k ≤ n ∧ i = .int .i64 (k : Nat) ∧ (∀ j, j < k → f j = 0 ∨ f j = 1) ∧ Below w.heap.size w W) (fun i _ => ((n : Int) - intOf i).toNat)
  case atStart => exact ⟨0, by omega, rfl, fun j hj => by omega, Below.refl _ _⟩
  case round =>
    obtain ⟨k, hk, rfl, hn, hbe⟩ := hrel
    have HN := (show Hid _ from hn)
    have HBE := (show Hid _ from hbe)
    by_cases hlt : k < n
    · have HLT : Hid (k < n) := hlt
      have hlt2 : (k : Int) < (n : Int) := by omega
      obtain ⟨b, o, rfl, h1⟩ := HC.out k hlt
      have h2 := (hbe.cell (p := ⟨b, o + k, none⟩) (cell_block h1)).trans h1
      by_cases hf : f k = 0 ∨ f k = 1
      · have HNX : Hid (∀ j, j < k + 1 → f j = 0 ∨ f j = 1) := fun j hj => by
          by_cases e : j = k
          · rw [e]; exact hf
          · exact HN.out j (by omega)
        clear hn hbe h1 hlt
        rcases hf with hf | hf
        · rw [hf] at h2
          clear hf
          go_wp2
          go_roundw
          case rel => exact ⟨k + 1, HLT.out, by go_num, HNX.out, HBE.out⟩
          case measure => have := HLT.out; simp [intOf]; omega
        · rw [hf] at h2
          clear hf
          go_wp2
          go_roundw
          case rel => exact ⟨k + 1, HLT.out, by go_num, HNX.out, HBE.out⟩
          case measure => have := HLT.out; simp [intOf]; omega
      · have HF : Hid (frB n f = false) := frB_false hlt hf
        by_cases hneg : f k < 0
        · generalize f k = z at *
          clear hn hbe h1 hlt hf
          go_wp2
          go_ret
          exact ⟨by rw [HF.out]; rfl, HBE.out⟩
        · have hneg2 : (1 : Int) < f k := by omega
          generalize f k = z at *
          clear hn hbe h1 hlt hf
          go_wp2
          go_ret
          exact ⟨by rw [HF.out]; rfl, HBE.out⟩
    · obtain rfl : k = n := by omega
      have hnn : ¬ ((k : Nat) : Int) < ((k : Nat) : Int) := by omega
      have HF : Hid (frB k f = true) := (frB_iff k f).2 HN.out
      clear hn hbe hlt
      go_wp2
      go_ret
      exact ⟨by rw [HF.out]; rfl, HBE.out⟩
/-- What a register makes, as numbers. -/
def rgB (t s : Nat → Nat) (L : Nat) : Nat → List Nat
  | 0 => []
  | n + 1 => rgB t s L n ++ [if n < L then s n % 2 else (((List.range L).map fun k => t k * (rgB t s L n).getD (n - 1 - k) 0).sum) % 2]
theorem rgB_len (t s : Nat → Nat) (L : Nat) : ∀ n, (rgB t s L n).length = n
  | 0 => rfl
  | n + 1 => by
    show (rgB t s L n ++ [_]).length = n + 1
    rw [List.length_append, rgB_len t s L n]
    rfl
theorem rgB_bit (t s : Nat → Nat) (L : Nat) : ∀ n i, (rgB t s L n).getD i 0 ≤ 1
  | 0, i => by simp [rgB]
  | n + 1, i => by
    show (rgB t s L n ++ [_]).getD i 0 ≤ 1
    by_cases h : i < n
    · rw [List.getD_eq_getElem?_getD, List.getElem?_append_left (by rw [rgB_len]; exact h), ← List.getD_eq_getElem?_getD]
      exact rgB_bit t s L n i
    · by_cases h2 : i = n
      · rw [List.getD_eq_getElem?_getD, List.getElem?_append_right (by rw [rgB_len]; omega), rgB_len, h2]
        simp
        split <;> omega
      · rw [List.getD_eq_getElem?_getD, List.getElem?_eq_none (by rw [List.length_append, rgB_len]; simp; omega)]
        simp
/-- The sum so far. -/
def rps (t : Nat → Nat) (o : List Nat) (i k : Nat) : Nat := ((List.range k).map fun k => t k * o.getD (i - 1 - k) 0).sum
theorem rps_succ (t : Nat → Nat) (o : List Nat) (i k : Nat) : rps t o i (k + 1) = rps t o i k + t k * o.getD (i - 1 - k) 0 := by
  unfold rps
  rw [List.range_succ, List.map_append, List.sum_append]
  simp
theorem rps_le {t : Nat → Nat} {o : List Nat} {i L : Nat} (ht : ∀ k, k < L → t k ≤ 1) (ho : ∀ j, o.getD j 0 ≤ 1) : ∀ k, k ≤ L → rps t o i k ≤ k
  | 0, _ => Nat.le_refl _
  | k + 1, h => by
    rw [rps_succ]
    have h1 := rps_le (i := i) ht ho k (by omega)
    have h2 := ht k (by omega)
    have h3 := ho (i - 1 - k)
    have h4 : t k * o.getD (i - 1 - k) 0 ≤ 1 := Nat.le_trans (Nat.mul_le_mul h2 h3) (by decide)
    omega
theorem rgB_next (t s : Nat → Nat) (L n : Nat) : rgB t s L (n + 1) = rgB t s L n ++ [if n < L then s n % 2 else rps t (rgB t s L n) n L % 2] := rfl
/-- What Run says is wrong. -/
def rrE (nt ns : Nat) (ft fs : Nat → Int) (n : Int) : Int := if 256 < nt ∨ ns ≠ nt then 8 else if n < 0 ∨ 65536 < n ∨ frB nt ft = false ∨ frB ns fs = false then 3 else 0
set_option maxRecDepth 100000 in
set_option maxHeartbeats 2000000 in
theorem rrun_bad (vt vs : Value) (nt ns : Nat) (ft fs : Nat → Int) (n : Int) (hE : rrE nt ns ft fs n ≠ 0) (w : World) (ht : NumsAt w vt nt ft) (hs : NumsAt w vs ns fs) : Calls Try.prog 8 #[vt, vs, .int .i64 n] w fun e w' => e = .returned (.tuple #[.slice none 0 0, .int .i64 (rrE nt ns ft fs n)]) ∧ Below w.heap.size w w' := by
  have HF1 := (show Hid (∀ W, Below w.heap.size w W → Calls Try.prog 17 #[vt] W fun e w' => e = .returned (.bool (frB nt ft)) ∧ Below W.heap.size W w') from fun W hb => rfair_any vt nt ft W (ht.below hb))
  have HF2 := (show Hid (∀ W, Below w.heap.size w W → Calls Try.prog 17 #[vs] W fun e w' => e = .returned (.bool (frB ns fs)) ∧ Below W.heap.size W w') from fun W hb => rfair_any vs ns fs W (hs.below hb))
  obtain ⟨at', ct, rfl, hmt, _⟩ := ht
  obtain ⟨as', cs, rfl, hms, _⟩ := hs
  unfold maxLen at hmt hms
  by_cases h1 : 256 < nt ∨ ns ≠ nt
  · have HE : Hid (rrE nt ns ft fs n = 8) := by unfold rrE; rw [Hid, if_pos h1]
    clear hE HF1 HF2
    by_cases h2 : 256 < nt
    · have h3 : (256 : Int) < (nt : Int) := by omega
      clear h1 h2
      go_enter Try.func8, Try.ntmps8
      go_wp2
      go_ret2
      exact ⟨by rw [HE.out]; rfl, Below.refl _ _⟩
    · have h3 : ¬ (256 : Int) < (nt : Int) := by omega
      have h4 : (((ns : Nat) : Int) != ((nt : Nat) : Int)) = true := by simp; omega
      clear h1 h2
      go_enter Try.func8, Try.ntmps8
      go_wp2
      go_ret2
      exact ⟨by rw [HE.out]; rfl, Below.refl _ _⟩
  · have h3 : ¬ (256 : Int) < (nt : Int) := by omega
    have h4 : (((ns : Nat) : Int) != ((nt : Nat) : Int)) = false := by simp; omega
    have HE : Hid (rrE nt ns ft fs n = 3 ∧ (n < 0 ∨ 65536 < n ∨ frB nt ft = false ∨ frB ns fs = false)) := by
      unfold rrE at hE ⊢
      rw [if_neg h1] at hE ⊢
      by_cases h5 : n < 0 ∨ 65536 < n ∨ frB nt ft = false ∨ frB ns fs = false
      · exact ⟨by rw [if_pos h5], h5⟩
      · rw [if_neg h5] at hE; exact absurd rfl hE
    clear h1 hE
    by_cases h5 : n < 0
    · clear HF1 HF2
      go_enter Try.func8, Try.ntmps8
      go_wp2
      go_ret2
      exact ⟨by rw [HE.out.1]; rfl, Below.refl _ _⟩
    · by_cases h6 : 65536 < n
      · clear HF1 HF2
        go_enter Try.func8, Try.ntmps8
        go_wp2
        go_ret2
        exact ⟨by rw [HE.out.1]; rfl, Below.refl _ _⟩
      · go_enter Try.func8, Try.ntmps8
        go_wp2_with fail
        refine (HF1.out _ (Below.refl _ _)).mono ?_
        rintro e W1 ⟨rfl, hb⟩
        cases h7 : frB nt ft
        · clear h7 HF2
          go_wp2
          go_ret2
          exact ⟨by rw [HE.out.1]; rfl, hb⟩
        · have h8 : frB ns fs = false := by
            rcases HE.out.2 with h | h | h | h
            · omega
            · omega
            · rw [h7] at h; cases h
            · exact h
          rw [h8] at HF2
          clear h7 h8
          go_wp2_with fail
          refine (HF2.out _ hb).mono ?_
          rintro e W2 ⟨rfl, hb2⟩
          have HBE := (show Hid _ from hb.trans (hb2.mono hb.size))
          clear hb hb2 HF1 HF2
          go_wp2
          go_ret2
          exact ⟨by rw [HE.out.1]; rfl, HBE.out⟩
set_option maxRecDepth 100000 in
set_option maxHeartbeats 4000000 in
theorem rrun_ok (vt vs : Value) (L : Nat) (hL : L ≤ 256) (t s : Nat → Nat) (h1t : ∀ k, k < L → t k ≤ 1) (h1s : ∀ k, k < L → s k ≤ 1) (n : Nat) (hn : n ≤ 65536) (w : World) (ht : NumsAt w vt L fun k => (t k : Nat)) (hs : NumsAt w vs L fun k => (s k : Nat)) : Calls Try.prog 8 #[vt, vs, .int .i64 (n : Nat)] w fun e w' => ∃ v, e = .returned (.tuple #[v, .int .i64 0]) ∧ OwnsL w' w.heap.size v (rgB t s L n) ∧ Below w.heap.size w w' := by
  obtain ⟨i0, hi0, hz0, hz1, hz2⟩ := x_info_parts g_info_int
  have hfT : frB L (fun k => ((t k : Nat) : Int)) = true := (frB_iff _ _).2 fun i hi => by have := h1t i hi; omega
  have hfS : frB L (fun k => ((s k : Nat) : Int)) = true := (frB_iff _ _).2 fun i hi => by have := h1s i hi; omega
  have HF1 := (show Hid (∀ W, Below w.heap.size w W → Calls Try.prog 17 #[vt] W fun e w' => e = .returned (.bool true) ∧ Below W.heap.size W w') from fun W hb => by have := rfair_any vt L _ W (ht.below hb); rw [hfT] at this; exact this)
  have HF2 := (show Hid (∀ W, Below w.heap.size w W → Calls Try.prog 17 #[vs] W fun e w' => e = .returned (.bool true) ∧ Below W.heap.size W w') from fun W hb => by have := rfair_any vs L _ W (hs.below hb); rw [hfS] at this; exact this)
  have HT := (show Hid (NumsAt w vt L fun k => (t k : Nat)) from ht)
  have HS := (show Hid (NumsAt w vs L fun k => (s k : Nat)) from hs)
  have H1T := (show Hid _ from h1t)
  have H1S := (show Hid _ from h1s)
  obtain ⟨at', ct, rfl, _, _⟩ := ht
  obtain ⟨as', cs, rfl, _, _⟩ := hs
  have h3 : ¬ (256 : Int) < (L : Int) := by omega
  have h4 : (((L : Nat) : Int) != ((L : Nat) : Int)) = false := by simp
  have h5 : ¬ (65536 : Int) < (n : Int) := by omega
  clear h1t h1s hfT hfS
  go_enter Try.func8, Try.ntmps8
  go_wp2_with fail
  refine (HF1.out _ (Below.refl _ _)).mono ?_
  rintro e W1 ⟨rfl, hb⟩
  clear HF1
  go_wp2_with fail
  refine (HF2.out _ hb).mono ?_
  rintro e W2 ⟨rfl, hb2⟩
  have hbe0 := hb.trans (hb2.mono hb.size)
  clear hb hb2 HF2 h3 h4 h5
  go_wp2_with fail
  go_loopw [8, 9] (fun o x W => ∃ (i : Nat) (v : Value), i ≤ n ∧ x = .int .i64 (i : Nat) ∧ v = o ∧ OwnsL W w.heap.size v (rgB t s L i) ∧ Below w.heap.size w W) (fun _ x _ => ((n : Int) - intOf x).toNat)
  case atStart => exact ⟨0, _, by omega, rfl, rfl, OwnsL.nil _ _, hbe0⟩
  case round =>
    clear hbe0
    obtain ⟨i, v, hi, rfl, rfl, hown, hbe⟩ := hrel
    have hlen := rgB_len t s L i
    have hz := hbe.size
    by_cases hlt : i < n
    case neg =>
      obtain rfl : i = n := by omega
      have hnn : ¬ ((i : Nat) : Int) < ((i : Nat) : Int) := by omega
      have HOWN := (show Hid _ from hown)
      have HBE := (show Hid _ from hbe)
      clear hown hbe hlt hlen hz
      go_wp2
      go_ret2
      exact ⟨v, rfl, HOWN.out, HBE.out⟩
    have HLT : Hid (i < n) := hlt
    have hlt2 : (i : Int) < (n : Int) := by omega
    have HNX := (show Hid (rgB t s L (i + 1) = rgB t s L i ++ [if i < L then s i % 2 else rps t (rgB t s L i) i L % 2]) from rgB_next t s L i)
    have HBIT := (show Hid (∀ j, (rgB t s L i).getD j 0 ≤ 1) from fun j => rgB_bit t s L i j)
    obtain ⟨O, hO⟩ : ∃ O, O = rgB t s L i := ⟨_, rfl⟩
    rw [← hO] at hown hlen HNX HBIT
    clear hO
    by_cases hiL : i < L
    · have hiL2 : (i : Int) < (L : Int) := by omega
      obtain ⟨_, _, e, _, hc⟩ := HS.out
      cases e
      obtain ⟨b, o, rfl, h1⟩ := hc i hiL
      have h2 := (hbe.cell (p := ⟨b, o + i, none⟩) (cell_block h1)).trans h1
      have hs1 := H1S.out i hiL
      rw [if_pos hiL] at HNX
      obtain ⟨x, hx⟩ : ∃ x, x = s i := ⟨_, rfl⟩
      have h2' : wr.cell? ⟨b, o + i, none⟩ = some (.int .i64 (x : Nat)) := by rw [hx]; exact h2
      rw [← hx] at hs1 HNX
      have hxm : (x : Int).tmod 2 = (x : Int) := by rw [Int.tmod_eq_emod_of_nonneg (by omega)]; omega
      have hxm2 : (x : Int) % 2 = (x : Int) := by omega
      have HXM : Hid (x % 2 = x) := by rw [Hid]; omega
      clear h1 h2 hx hc hiL hlt
      go_wp2_with (first | (at_builtin; refine wpList_append_own _ rfl _ _ 22 rfl w.heap.size 3 i0 (.int .i64 0) 1 8 Try.underlying22 hi0 hz0 hz1 hz2 rfl (by decide) _ _ _ rfl (World.ownsRow.alloc hown _) ⟨wr.heap.size, 0, none⟩ 1 1 [.int .i64 (x : Nat)] rfl rfl (cell_one_new _ _ _) (fun u hu => by simp at hu; subst hu; rfl) (by unfold maxLen; omega) (by omega) (by simp; omega) ?_; intro v' w1 hown' hgrow _))
      go_roundw
      case rel =>
        refine ⟨i + 1, v', HLT.out, by go_num, rfl, ?_, ?_⟩
        · rw [HNX.out, HXM.out, OwnsL, nnums_append, List.length_append]
          exact hown'
        · exact (hbe.alloc hbe.size _).grown hgrow (by simp; omega) (fun j hj => (World.ownsRow.lt hown j hj).1)
      case measure => have := HLT.out; simp [intOf]; omega
    · have hiL2 : ¬ (i : Int) < (L : Int) := by omega
      rw [if_neg hiL] at HNX
      have HRS := (show Hid (∀ k, rps t O i (k + 1) = rps t O i k + t k * O.getD (i - 1 - k) 0) from fun k => rps_succ t O i k)
      have HRL := (show Hid (∀ k, k ≤ L → rps t O i k ≤ k) from fun k hk => rps_le (i := i) H1T.out HBIT.out k hk)
      have HR0 : Hid (rps t O i 0 = 0) := rfl
      clear hlt
      go_wp2_with fail
      go_loopw [10, 53] (fun a x W => ∃ k : Nat, k ≤ L ∧ x = .int .i64 (k : Nat) ∧ a = .int .i64 (rps t O i k : Nat) ∧ OwnsL W w.heap.size v O ∧ Below w.heap.size w W) (fun _ x _ => ((L : Int) - intOf x).toNat)
      case atStart => exact ⟨0, by omega, rfl, rfl, hown, hbe⟩
      case round =>
        clear hown hbe hz
        obtain ⟨k, hk, rfl, rfl, hown, hbe⟩ := hrel
        have hz := hbe.size
        have hrl := HRL.out k hk
        by_cases hlt : k < L
        · have HLK : Hid (k < L) := hlt
          have hltk : (k : Int) < (L : Int) := by omega
          have hrs := HRS.out k
          have HR := (show Hid _ from hrs)
          obtain ⟨_, _, e, _, hc⟩ := HT.out
          cases e
          obtain ⟨b, o, rfl, h1⟩ := hc k hlt
          have h2 := (hbe.cell (p := ⟨b, o + k, none⟩) (cell_block h1)).trans h1
          obtain ⟨ao, co, heo, _, hco⟩ := OwnsL.nums hown
          rw [hlen] at heo hco
          obtain ⟨bo, oo, hao, h3⟩ := hco (i - 1 - k) (by omega)
          have ht1 := H1T.out k hlt
          have ho1 := HBIT.out (i - 1 - k)
          obtain ⟨x, hx⟩ : ∃ x, x = t k := ⟨_, rfl⟩
          obtain ⟨y, hy⟩ : ∃ y, y = O.getD (i - 1 - k) 0 := ⟨_, rfl⟩
          have h2' : wr.cell? ⟨b, o + k, none⟩ = some (.int .i64 (x : Nat)) := by rw [hx]; exact h2
          have h3' : wr.cell? ⟨bo, oo + (i - 1 - k), none⟩ = some (.int .i64 (y : Nat)) := by rw [hy]; exact h3
          rw [← hy] at ho1 HR
          rw [← hx] at ht1 HR
          have k1 : (i : Int) - 1 - (k : Int) < (i : Int) := by omega
          have k2 : ¬ (i : Int) - 1 - (k : Int) < 0 := by omega
          have k3 : ((i : Int) - 1 - (k : Int)).toNat = i - 1 - k := by omega
          have hxy : ((x : Int) * (y : Int)) = ((x * y : Nat) : Int) := by rw [Int.natCast_mul]
          have hxy1 : x * y ≤ 1 := Nat.le_trans (Nat.mul_le_mul ht1 ho1) (by decide)
          have HOWN := (show Hid _ from hown)
          have HBE := (show Hid _ from hbe)
          subst hao
          subst heo
          clear h1 h2 h3 hx hy hc hco hlt hrs hown hbe
          obtain ⟨m, hm⟩ : ∃ m, m = x * y := ⟨_, rfl⟩
          rw [← hm] at HR hxy hxy1
          clear hm
          generalize rps t O i k = r at *
          go_upto_region 15 with fail
          go_quiet (fail)
          have HOX : Hid (OwnsL (wr.drewN nq) w.heap.size (.slice (some ⟨bo, oo, none⟩) i co) O) := HOWN.out
          have HBX := (show Hid (Below w.heap.size w (wr.drewN nq)) from HBE.out.trans ⟨rfl, rfl, rfl, Nat.le_refl _, fun _ _ => rfl⟩)
          generalize wr.drewN nq = X at *
          clear HOWN HBE h3' h2'
          go_wp2
          go_roundw
          case rel => exact ⟨k + 1, HLK.out, by go_num, by rw [HR.out]; go_num, HOX.out, HBX.out⟩
          case measure => have := HLK.out; simp [intOf]; omega
        · obtain rfl : k = L := by omega
          have hnn : ¬ ((k : Nat) : Int) < ((k : Nat) : Int) := by omega
          obtain ⟨r, hr⟩ : ∃ r, r = rps t O i k := ⟨_, rfl⟩
          rw [← hr] at HNX hrl ⊢
          obtain ⟨x, hx⟩ : ∃ x, x = r % 2 := ⟨_, rfl⟩
          have hxm : (r : Int).tmod 2 = (x : Int) := by rw [Int.tmod_eq_emod_of_nonneg (by omega)]; omega
          have hxm2 : (r : Int) % 2 = (x : Int) := by omega
          rw [← hx] at HNX
          clear hlt hr hx
          go_wp2_with (first | (at_builtin; refine wpList_append_own _ rfl _ _ 22 rfl w.heap.size 3 i0 (.int .i64 0) 1 8 Try.underlying22 hi0 hz0 hz1 hz2 rfl (by decide) _ _ _ rfl (World.ownsRow.alloc hown _) ⟨wr.heap.size, 0, none⟩ 1 1 [.int .i64 (x : Nat)] rfl rfl (cell_one_new _ _ _) (fun u hu => by simp at hu; subst hu; rfl) (by unfold maxLen; omega) (by omega) (by simp; omega) ?_; intro v' w1 hown' hgrow _))
          go_roundw
          case rel =>
            refine ⟨i + 1, v', HLT.out, by go_num, rfl, ?_, ?_⟩
            · rw [HNX.out, OwnsL, nnums_append, List.length_append]
              exact hown'
            · exact (hbe.alloc hbe.size _).grown hgrow (by simp; omega) (fun j hj => (World.ownsRow.lt hown j hj).1)
          case measure => have := HLT.out; simp [intOf]; omega
end Go.Proofs.Ytflehdigikdhmaa
