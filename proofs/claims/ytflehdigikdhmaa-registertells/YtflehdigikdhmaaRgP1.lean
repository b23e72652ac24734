/-
  Contracts of register's areBits, sum and wrong (chapter 11); a copy of numbers into a row.
-/
import Derived.Test.YtflehdigikdhmaaRgQ
import Derived.Laws.CopyOwn
namespace Go.Proofs.Ytflehdigikdhmaa
open Go.RowKit PK Rg

/-- A truth as a bit. -/
def b1 (b : Bool) : Int := if b = true then 1 else 0
def bi (r : Nat → Bool) : Nat → Int := fun k => b1 (r k)
theorem b1_and (x y : Bool) : bits .and .i64 (b1 x) (b1 y) = b1 (x && y) := by cases x <;> cases y <;> rfl
theorem b1_xor (x y : Bool) : bits .xor .i64 (b1 x) (b1 y) = b1 (xor x y) := by cases x <;> cases y <;> rfl
set_option maxRecDepth 100000 in
set_option maxHeartbeats 1000000 in
theorem pbits_any (v : Value) (n : Nat) (f : Nat → Int) (w : World) (hv : NumsAt w v n f) : Calls Try.prog 15 #[v] w fun e w' => e = .returned (.bool (frB n f)) ∧ Below w.heap.size w w' := by
  obtain ⟨a, c, rfl, hm, hc⟩ := hv
  have HC := (show Hid _ from hc)
  unfold maxLen at hm
  clear hc
  go_enter Try.func15, Try.ntmps15
  go_wp2_with fail
  go_loopw [7] (fun i W => ∃ k : Nat, k ≤ n ∧ i = .int .i64 (k : Nat) ∧ (∀ j, j < k → f j = 0 ∨ f j = 1) ∧ Below w.heap.size w W) (fun i _ => ((n : Int) - intOf i).toNat)
  case atStart => exact ⟨0, by omega, rfl, fun j hj => by omega, Below.refl _ _⟩
  case round =>
    obtain ⟨k, hk, rfl, hn, hbe⟩ := hrel
    have HN := (show Hid _ from hn)
    have HBE := (show Hid _ from hbe)
    by_cases hlt : k < n
    · have HLT : Hid (k < n) := hlt
      have hlt2 : (k : Int) < (n : Int) := by omega
      obtain ⟨b, o, rfl, h1⟩ := HC.out k hlt
      have h2 := (hbe.cell (p := ⟨b, o + k, none⟩) (cell_block h1)).trans h1
      by_cases hf : f k = 0 ∨ f k = 1
      · have HNX : Hid (∀ j, j < k + 1 → f j = 0 ∨ f j = 1) := fun j hj => by
          by_cases e : j = k
          · rw [e]; exact hf
          · exact HN.out j (by omega)
        clear hn hbe h1 hlt
        rcases hf with hf | hf
        · rw [hf] at h2
          clear hf
          go_wp2
          go_roundw
          case rel => exact ⟨k + 1, HLT.out, by go_num, HNX.out, HBE.out⟩
          case measure => have := HLT.out; simp [intOf]; omega
        · rw [hf] at h2
          clear hf
          go_wp2
          go_roundw
          case rel => exact ⟨k + 1, HLT.out, by go_num, HNX.out, HBE.out⟩
          case measure => have := HLT.out; simp [intOf]; omega
      · have HF : Hid (frB n f = false) := frB_false hlt hf
        have z0 : (f k != 0) = true := by simp; omega
        have z1 : (f k != 1) = true := by simp; omega
        generalize f k = z at *
        clear hn hbe h1 hlt hf
        go_wp2
        go_ret
        exact ⟨by rw [HF.out]; rfl, HBE.out⟩
    · obtain rfl : k = n := by omega
      have hnn : ¬ ((k : Nat) : Int) < ((k : Nat) : Int) := by omega
      have HF : Hid (frB k f = true) := (frB_iff k f).2 HN.out
      clear hn hbe hlt
      go_wp2
      go_ret
      exact ⟨by rw [HF.out]; rfl, HBE.out⟩
set_option maxRecDepth 100000 in
set_option maxHeartbeats 2000000 in
theorem psum_any (vt vb : Value) (nt nb : Nat) (hle : nt ≤ nb) (T s : Nat → Bool) (w : World) (ht : NumsAt w vt nt (bi T)) (hb : NumsAt w vb nb (bi s)) : Calls Try.prog 16 #[vt, vb] w fun e w' => e = .returned (.int .i64 (b1 (sx nt fun k => T k && s (nb - 1 - k)))) ∧ Below w.heap.size w w' := by
  obtain ⟨at', ct, rfl, hmt, hct⟩ := ht
  obtain ⟨ab, cb, rfl, hmb, hcb⟩ := hb
  have HT := (show Hid (∀ c, c < nt → ∃ b o, at' = some ⟨b, o, none⟩ ∧ w.cell? ⟨b, o + c, none⟩ = some (.int .i64 (bi T c))) from hct)
  have HB := (show Hid (∀ c, c < nb → ∃ b o, ab = some ⟨b, o, none⟩ ∧ w.cell? ⟨b, o + c, none⟩ = some (.int .i64 (bi s c))) from hcb)
  unfold maxLen at hmt hmb
  clear hct hcb
  go_enter Try.func16, Try.ntmps16
  go_wp2_with fail
  go_loopw [5, 10] (fun a i W => ∃ k : Nat, k ≤ nt ∧ i = .int .i64 (k : Nat) ∧ a = .int .i64 (b1 (sx k fun k => T k && s (nb - 1 - k))) ∧ Below w.heap.size w W) (fun _ i _ => ((nt : Int) - intOf i).toNat)
  case atStart => exact ⟨0, by omega, rfl, rfl, Below.refl _ _⟩
  case round =>
    obtain ⟨k, hk, rfl, rfl, hbe⟩ := hrel
    have HBE := (show Hid _ from hbe)
    by_cases hlt : k < nt
    · have HLT : Hid (k < nt) := hlt
      have hlt2 : (k : Int) < (nt : Int) := by omega
      obtain ⟨b, o, rfl, h1⟩ := HT.out k hlt
      have h2 := (hbe.cell (p := ⟨b, o + k, none⟩) (cell_block h1)).trans h1
      obtain ⟨b', o', rfl, h3⟩ := HB.out (nb - 1 - k) (by omega)
      have h4 := (hbe.cell (p := ⟨b', o' + (nb - 1 - k), none⟩) (cell_block h3)).trans h3
      have k1 : (nb : Int) - 1 - (k : Int) < (nb : Int) := by omega
      have k2 : ¬ (nb : Int) - 1 - (k : Int) < 0 := by omega
      have k3 : ((nb : Int) - 1 - (k : Int)).toNat = nb - 1 - k := by omega
      have hx : bits .xor .i64 (b1 (sx k fun k => T k && s (nb - 1 - k))) (bits .and .i64 (bi T k) (bi s (nb - 1 - k))) = b1 (sx (k + 1) fun k => T k && s (nb - 1 - k)) := by
        unfold bi
        rw [b1_and, b1_xor]
        rfl
      obtain ⟨A', hA'⟩ : ∃ A', A' = b1 (sx (k + 1) fun k => T k && s (nb - 1 - k)) := ⟨_, rfl⟩
      have HA' := (show Hid _ from hA')
      rw [← hA'] at hx
      clear hA'
      generalize b1 (sx k fun k => T k && s (nb - 1 - k)) = A at *
      generalize bi T k = x at *
      generalize bi s (nb - 1 - k) = y at *
      clear h1 h3 hbe hlt
      go_wp2
      go_roundw
      case rel => exact ⟨k + 1, HLT.out, by go_num, by rw [HA'.out], HBE.out⟩
      case measure => have := HLT.out; simp [intOf]; omega
    · obtain rfl : k = nt := by omega
      have hnn : ¬ ((k : Nat) : Int) < ((k : Nat) : Int) := by omega
      obtain ⟨A, hA⟩ : ∃ A, A = b1 (sx k fun k => T k && s (nb - 1 - k)) := ⟨_, rfl⟩
      have HA := (show Hid _ from hA)
      rw [← hA]
      clear hbe hlt hA
      go_wp2
      go_ret
      exact ⟨by rw [← HA.out]; rfl, HBE.out⟩
set_option maxRecDepth 100000 in
set_option maxHeartbeats 1000000 in
theorem pwrong_any (v : Value) (n : Nat) (f : Nat → Int) (w : World) (hv : NumsAt w v n f) : Calls Try.prog 18 #[v] w fun e w' => e = .returned (.int .i64 (rsE n f)) ∧ Below w.heap.size w w' := by
  have HF1 := (show Hid (Calls Try.prog 15 #[v] w fun e w' => e = .returned (.bool (frB n f)) ∧ Below w.heap.size w w') from pbits_any v n f w hv)
  obtain ⟨a, c, rfl, hm, hc⟩ := hv
  unfold maxLen at hm
  clear hc
  by_cases h1 : 256 < n
  · have HE : Hid (rsE n f = 5) := by unfold rsE; rw [Hid, if_pos h1]
    have h3 : (256 : Int) < (n : Int) := by omega
    clear h1 HF1
    go_enter Try.func18, Try.ntmps18
    go_wp2
    go_ret
    exact ⟨by rw [HE.out]; rfl, Below.refl _ _⟩
  · have h3 : ¬ (256 : Int) < (n : Int) := by omega
    have HE : Hid (rsE n f = if frB n f = false then 3 else 0) := by unfold rsE; rw [Hid, if_neg h1]
    clear h1
    go_enter Try.func18, Try.ntmps18
    go_wp2_with fail
    refine Calls.mono HF1.out ?_
    rintro e W1 ⟨rfl, hb⟩
    clear HF1
    cases h7 : frB n f
    · rw [h7] at HE
      clear h7
      go_wp2
      go_ret
      exact ⟨by rw [HE.out]; rfl, hb⟩
    · rw [h7] at HE
      clear h7
      go_wp2
      go_ret
      exact ⟨by rw [HE.out]; rfl, hb⟩
/-- The first m of h, behind them f. -/
def cpF (f h : Nat → Int) (m : Nat) : Nat → Int := fun i => if i < m then h i else f i
theorem splice_ints {N k : Nat} (hk : k ≤ N) (f h : Nat → Int) : (splice (ints N f).toList 0 ((List.range k).map fun i => Value.int .i64 (h i))).toArray = ints N (cpF f h k) := by
  unfold splice
  apply Array.ext_getElem?
  intro j
  simp only [List.take_zero, List.nil_append, Nat.zero_add, List.length_map, List.length_range, List.getElem?_toArray]
  by_cases hj : j < N
  · rw [ints_get _ hj]
    by_cases e : j < k
    · rw [List.getElem?_append_left (by simpa using e)]
      simp [cpF, e]
    · rw [List.getElem?_append_right (by simpa using e)]
      simp only [List.length_map, List.length_range, List.getElem?_drop, Array.getElem?_toList]
      rw [show k + (j - k) = j by omega, ints_get _ hj]
      simp [cpF, e]
  · have h1 : (ints N (cpF f h k))[j]? = none := by simp [ints, tab]; omega
    rw [h1, List.getElem?_eq_none]
    simp [ints, tab]
    omega
/-- copy(out, v): out is a row of N numbers of the call's own. -/
theorem run_copy_ints {w : World} {g N : Nat} {f : Nat → Int} (hrow : RowAt w g 3 (ints N f)) {v : Value} {k : Nat} {h : Nat → Int} (hv : NumsAt w v k h) {B : Nat} {w0 : World} (hb : Below B w0 w) (hBg : B ≤ g) :
    ∃ w', (∀ ty, (Builtin.copy_ #[22, 22] ty #[.slice (some ⟨g, 0, none⟩) N N, v]).run Try.prog w = .ok (.int .i64 (min k N : Nat)) w') ∧ RowAt w' g 3 (ints N (cpF f h (min k N))) ∧ Below B w0 w' := by
  obtain ⟨ad', cap, rfl, _, hc⟩ := hv
  have hsz : (Try.prog.info? 3).map (·.size) = some 1 := by kernel_rfl
  have hl : ((List.range (min k N)).map fun i => Value.int .i64 (h i)).length = min k N := by simp
  by_cases h0 : min k N = 0
  · refine ⟨w, fun ty => ?_, ?_, hb⟩
    · rw [run_copy_none (P := Try.prog) w 22 22 ty 3 (some ⟨g, 0, none⟩) ad' N N k cap Try.underlying22 hsz h0, h0]
      rfl
    · have e : ints N (cpF f h (min k N)) = ints N f := ints_ext fun i hi => by
        unfold cpF
        rw [if_neg (by omega)]
      rw [e]
      exact hrow
  · obtain ⟨b, o', rfl, _⟩ := hc 0 (by omega)
    have hsrc : ∀ (j : Nat) (v : Value), ((List.range (min k N)).map fun i => Value.int .i64 (h i))[j]? = some v → w.cell? ((⟨b, o', none⟩ : Addr).add j) = some v := fun j v hj => by
      have hjk : j < min k N := by
        have := (List.getElem?_eq_some_iff.1 hj).1
        simpa using this
      obtain ⟨b2, o2, e2, hcell⟩ := hc j (by omega)
      cases e2
      have e : v = .int .i64 (h j) := by
        simp [hjk] at hj
        rw [← hj]
      rw [e]
      have ea : ((⟨b, o', none⟩ : Addr).add j) = ⟨b, o' + j, none⟩ := by unfold Addr.add; by_cases e0 : j = 0 <;> simp [e0]
      rw [ea]
      exact hcell
    have h1 : ∀ v ∈ ((List.range (min k N)).map fun i => Value.int .i64 (h i)), v.oneCell' = true := fun u hu => by
      simp at hu
      obtain ⟨i, _, rfl⟩ := hu
      rfl
    refine ⟨w.setRow g (ints N (cpF f h (min k N))), fun ty => ?_, hrow.row _, Below.setRow hb g hBg _⟩
    have hr := run_copy_row (P := Try.prog) w 22 22 ty 3 g 0 N N ⟨b, o', none⟩ k cap (ints N f) 3 ((List.range (min k N)).map fun i => Value.int .i64 (h i)) Try.underlying22 hsz hrow hl hsrc (by rw [hl, ints_size]; omega) h1
    rw [hr]
    have hs := splice_ints (N := N) (k := min k N) (by omega) f h
    unfold splice at hs
    rw [← List.append_assoc] at hs
    rw [hs, hl]
    rfl
end Go.Proofs.Ytflehdigikdhmaa
