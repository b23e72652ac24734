/-
  Contract of slices.Reverse at pairs of numbers.
-/
import Derived.Test.YtlgijlfojkpeaadVKit
import Derived.RegionTactic
import Derived.BigRegion
namespace Go.Proofs.Ytlgijlfojkpeaad
open Go.RowKit PK Vg

/-- The cells c begin with n pairs of numbers. -/
def Prs (c : Array Value) (n : Nat) (f h : Nat → Int) : Prop := ∀ k, k < n → c[k * 2]? = some (.int .i64 (f k)) ∧ c[k * 2 + 1]? = some (.int .i64 (h k))
/-- Behind m exchanges. -/
def rvF (n m : Nat) (f : Nat → Int) : Nat → Int := fun k => if k < m ∨ n - m ≤ k then f (n - 1 - k) else f k
theorem rvF_zero (n : Nat) (f : Nat → Int) (k : Nat) (hk : k < n) : rvF n 0 f k = f k := by unfold rvF; rw [if_neg (by omega)]
theorem rvF_end (n m : Nat) (f : Nat → Int) (h1 : 2 * m ≤ n) (h2 : n ≤ 2 * m + 1) (k : Nat) (hk : k < n) : rvF n m f k = f (n - 1 - k) := by
  unfold rvF
  by_cases h : k < m ∨ n - m ≤ k
  · rw [if_pos h]
  · rw [if_neg h, show n - 1 - k = k by omega]
theorem rvF_step (n m : Nat) (f : Nat → Int) (h1 : m < n - 1 - m) (k : Nat) (hk : k < n) : rvF n (m + 1) f k = if k = m then rvF n m f (n - 1 - m) else if k = n - 1 - m then rvF n m f m else rvF n m f k := by
  unfold rvF
  by_cases e1 : k = m
  · subst e1
    rw [if_pos (by omega), if_pos rfl, if_neg (by omega)]
  · rw [if_neg e1]
    by_cases e2 : k = n - 1 - m
    · rw [if_pos e2, if_pos (by omega), if_neg (by omega), e2]
      congr 1; omega
    · rw [if_neg e2]
      by_cases e3 : k < m ∨ n - m ≤ k
      · rw [if_pos (by omega), if_pos e3]
      · rw [if_neg (by omega), if_neg e3]
theorem Prs.swap {c : Array Value} {n m : Nat} {f h : Nat → Int} (hp : Prs c n (rvF n m f) (rvF n m h)) (hlt : m < n - 1 - m) :
    Prs ((((c.setIfInBounds (m * 2) (.int .i64 (rvF n m f (n - 1 - m)))).setIfInBounds (m * 2 + 1) (.int .i64 (rvF n m h (n - 1 - m)))).setIfInBounds ((n - 1 - m) * 2) (.int .i64 (rvF n m f m))).setIfInBounds ((n - 1 - m) * 2 + 1) (.int .i64 (rvF n m h m))) n (rvF n (m + 1) f) (rvF n (m + 1) h) := by
  intro k hk
  have hq := hp k hk
  have hm := hp m (by omega)
  have hj := hp (n - 1 - m) (by omega)
  have s1 := (Array.getElem?_eq_some_iff.1 hm.1).1
  have s2 := (Array.getElem?_eq_some_iff.1 hm.2).1
  have s3 := (Array.getElem?_eq_some_iff.1 hj.1).1
  have s4 := (Array.getElem?_eq_some_iff.1 hj.2).1
  rw [rvF_step n m f hlt k hk, rvF_step n m h hlt k hk]
  simp only [Array.getElem?_setIfInBounds, Array.size_setIfInBounds]
  by_cases e1 : k = m
  · subst e1
    simp only [if_pos trivial]
    refine ⟨?_, ?_⟩
    · rw [if_neg (by omega), if_neg (by omega), if_neg (by omega), if_pos s1]
    · rw [if_neg (by omega), if_neg (by omega), if_pos s2]
  · by_cases e2 : k = n - 1 - m
    · subst e2
      simp only [if_neg e1, if_true]
      refine ⟨?_, ?_⟩
      · rw [if_neg (by omega), if_pos s3]
      · rw [if_pos s4]
    · rw [if_neg e1, if_neg e2, if_neg e1, if_neg e2]
      refine ⟨?_, ?_⟩
      · rw [if_neg (by omega), if_neg (by omega), if_neg (by omega), if_neg (by omega)]; exact hq.1
      · rw [if_neg (by omega), if_neg (by omega), if_neg (by omega), if_neg (by omega)]; exact hq.2
set_option maxRecDepth 100000 in
set_option maxHeartbeats 2000000 in
theorem rev_any (g n cap : Nat) (hn : n ≤ 65536) (f h : Nat → Int) (c : Array Value) (w : World) (hr : RowAt w g 38 c) (hp : Prs c n f h) :
    Calls Try.prog 16 #[.slice (some ⟨g, 0, none⟩) n cap] w fun e w' => (∃ v, e = .returned v) ∧ (∃ c', RowAt w' g 38 c' ∧ c'.size = c.size ∧ Prs c' n (fun k => f (n - 1 - k)) (fun k => h (n - 1 - k))) ∧ w.grownBy w' (some g) := by
  go_enter Try.func16, Try.ntmps16
  go_wp2
  go_loopw [2, 3] (fun i j W => ∃ (m : Nat) (d : Array Value), 2 * m ≤ n ∧ i = .int .i64 m ∧ j = .int .i64 ((n : Int) - 1 - m) ∧ RowAt W g 38 d ∧ d.size = c.size ∧ Prs d n (rvF n m f) (rvF n m h) ∧ w.grownBy W (some g)) (fun i _ _ => ((n : Int) - intOf i).toNat)
  case atStart => exact ⟨0, c, by omega, rfl, by simp, hr, rfl, fun k hk => by rw [rvF_zero n f k hk, rvF_zero n h k hk]; exact hp k hk, ⟨rfl, rfl, rfl, Nat.le_refl _, fun _ _ _ => rfl⟩⟩
  case round =>
    obtain ⟨m, d, hm, rfl, rfl, hd, hds, hpd, hgr⟩ := hrel
    by_cases hlt : m < n - 1 - m
    · have hsw := hpd.swap hlt
      obtain ⟨q, hq⟩ : ∃ q, q = n - 1 - m := ⟨_, rfl⟩
      have hq2 : (n : Int) - 1 - m = (q : Int) := by omega
      have hlt2 : (m : Int) < (q : Int) := by omega
      have hmn : (m : Int) < (n : Int) := by omega
      have hqn : (q : Int) < (n : Int) := by omega
      have c0 := hd.cell (hpd m (by omega)).1
      have c1 := hd.cell (hpd m (by omega)).2
      have c2 := hd.cell (hpd (n - 1 - m) (by omega)).1
      have c3 := hd.cell (hpd (n - 1 - m) (by omega)).2
      rw [← hq] at hsw c2 c3
      rw [hq2]
      have x0 := hd.frozen (m * 2)
      have x1 := hd.frozen (m * 2 + 1)
      have x2 := hd.frozen (q * 2)
      have x3 := hd.frozen (q * 2 + 1)
      have ro := (((hd.set (m * 2) (.int .i64 (rvF n m f q))).set (m * 2 + 1) (.int .i64 (rvF n m h q))).set (q * 2) (.int .i64 (rvF n m f m))).set (q * 2 + 1) (.int .i64 (rvF n m h m))
      have n0 : ¬ m * 2 = q * 2 := by omega
      have n1 : ¬ m * 2 = q * 2 + 1 := by omega
      have n2 : ¬ m * 2 + 1 = q * 2 := by omega
      have n3 : ¬ m * 2 + 1 = q * 2 + 1 := by omega
      have n4 : ¬ q * 2 = m * 2 := by omega
      have n5 : ¬ q * 2 + 1 = m * 2 := by omega
      have n6 : ¬ q * 2 = m * 2 + 1 := by omega
      have n7 : ¬ q * 2 + 1 = m * 2 + 1 := by omega
      have n8 : ¬ m = q := by omega
      have n9 : ¬ q = m := by omega
      generalize rvF n m f q = a0 at *
      generalize rvF n m h q = a1 at *
      generalize rvF n m f m = b0 at *
      generalize rvF n m h m = b1 at *
      have hm1 : 2 * (m + 1) ≤ n := by omega
      have HQJ : Hid ((q : Int) - 1 = (n : Int) - 1 - ((m + 1 : Nat) : Int)) := by rw [Hid]; omega
      clear hd hpd hq hq2 hlt
      go_wp2_with fail
      go_region
      all_goals (try go_wp2)
      go_roundw
      case rel =>
        refine ⟨m + 1, _, hm1, by go_num, by rw [HQJ.out], ro.drew, by simpa using hds, hsw, ?_⟩
        have hb := (((((Below.refl 0 wr).setCell (p := ⟨g, m * 2, none⟩) (Nat.zero_le _) (.int .i64 a0)).setCell (p := ⟨g, m * 2 + 1, none⟩) (Nat.zero_le _) (.int .i64 a1)).setCell (p := ⟨g, q * 2, none⟩) (Nat.zero_le _) (.int .i64 b0)).setCell (p := ⟨g, q * 2 + 1, none⟩) (Nat.zero_le _) (.int .i64 b1)).drew
        exact ⟨hb.os.trans hgr.os, hb.tape.trans hgr.tape, hb.output.trans hgr.output, Nat.le_trans hgr.size hb.size, fun k hk hne => by
          have hkg : k ≠ g := fun e => hne (by rw [e])
          have e4 := heap_setCell_other (((wr.setCell ⟨g, m * 2, none⟩ (.int .i64 a0)).setCell ⟨g, m * 2 + 1, none⟩ (.int .i64 a1)).setCell ⟨g, q * 2, none⟩ (.int .i64 b0)) ⟨g, q * 2 + 1, none⟩ k (.int .i64 b1) hkg
          have e3 := heap_setCell_other ((wr.setCell ⟨g, m * 2, none⟩ (.int .i64 a0)).setCell ⟨g, m * 2 + 1, none⟩ (.int .i64 a1)) ⟨g, q * 2, none⟩ k (.int .i64 b0) hkg
          have e2 := heap_setCell_other (wr.setCell ⟨g, m * 2, none⟩ (.int .i64 a0)) ⟨g, m * 2 + 1, none⟩ k (.int .i64 a1) hkg
          have e1 := heap_setCell_other wr ⟨g, m * 2, none⟩ k (.int .i64 a0) hkg
          exact (e4.trans (e3.trans (e2.trans e1))).trans (hgr.block k hk hne)⟩
      case measure => simp [intOf]; omega
    · have hnl : ¬ (m : Int) < (n : Int) - 1 - m := by omega
      have hnl2 : (n : Int) - 1 - m ≤ (m : Int) := by omega
      clear hlt
      go_wp2
      go_end0
      refine ⟨⟨_, rfl⟩, ⟨d, hd, hds, fun k hk => ?_⟩, hgr⟩
      have := hpd k hk
      rw [rvF_end n m f hm (by omega) k hk, rvF_end n m h hm (by omega) k hk] at this
      exact this
end Go.Proofs.Ytlgijlfojkpeaad
