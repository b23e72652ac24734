/-
  PadUndone: what is added is taken away.
-/
import Derived.Test.YtccdbghhjcdcfaaPdL
namespace Go.Proofs.Ytccdbghhjcdcfaa
open Go.RowKit PK Pd

theorem wr_in {n : Int} (h : 2 ≤ n) (f g : Nat → Int) (i : Nat) : 0 ≤ wrF n f g i ∧ wrF n f g i < n := by
  unfold wrF
  have : ((f i).toNat + (g i).toNat) % n.toNat < n.toNat := Nat.mod_lt _ (by omega)
  omega
theorem rd_in {n : Int} (h : 2 ≤ n) (f g : Nat → Int) (i : Nat) : 0 ≤ rdF n f g i ∧ rdF n f g i < n := by
  unfold rdF
  have : lst n.toNat (f i).toNat (g i).toNat < n.toNat := lst_lt (by omega) _ _
  omega
theorem wr_nat (n : Int) (f g : Nat → Int) (i : Nat) : (wrF n f g i).toNat = ((f i).toNat + (g i).toNat) % n.toNat := by unfold wrF; rw [Int.toNat_natCast]
theorem rd_nat (n : Int) (f g : Nat → Int) (i : Nat) : (rdF n f g i).toNat = lst n.toNat (f i).toNat (g i).toNat := by unfold rdF; rw [Int.toNat_natCast]
theorem rd_wr {n : Int} {f g : Nat → Int} {i : Nat} (hf : 0 ≤ f i ∧ f i < n) (hg : 0 ≤ g i ∧ g i < n) : rdF n (wrF n f g) g i = f i := by
  unfold rdF
  rw [wr_nat, lst_add (toNat_lt hf) (toNat_lt hg), toNat_eq hf]
theorem wr_rd {n : Int} {f g : Nat → Int} {i : Nat} (hf : 0 ≤ f i ∧ f i < n) (hg : 0 ≤ g i ∧ g i < n) : wrF n g (rdF n f g) i = f i := by
  unfold wrF
  rw [rd_nat, add_lst (toNat_lt hf) (toNat_lt hg), toNat_eq hf]
theorem lst_both {N o t k : Nat} (ho : o < N) (ht : t < N) : lst N ((o + k) % N) ((t + k) % N) = lst N o t := by
  have h1 : (o + k) % N < N := Nat.mod_lt _ (by omega)
  have h2 : (t + k) % N < N := Nat.mod_lt _ (by omega)
  refine add_inj h2 (lst_lt (by omega) _ _) (lst_lt (by omega) _ _) ?_
  rw [add_lst h1 h2, mod_add_one, show t + k + lst N o t = t + lst N o t + k by omega, ← mod_add_one N (t + lst N o t) k, add_lst ho ht]
theorem rd_two {n : Int} {fo ft fk : Nat → Int} {i : Nat} (ho : 0 ≤ fo i ∧ fo i < n) (ht : 0 ≤ ft i ∧ ft i < n) : rdF n (wrF n fo fk) (wrF n ft fk) i = rdF n fo ft i := by
  unfold rdF
  rw [wr_nat, wr_nat, lst_both (toNat_lt ho) (toNat_lt ht)]
theorem Ans.ext {w : World} {v : Value} {n : Nat} {f g : Nat → Int} (h : Ans w v n f) (he : ∀ i, i < n → f i = g i) : Ans w v n g := ⟨h.1, nums_ext h.2 he⟩
set_option maxRecDepth 100000 in
set_option maxHeartbeats 8000000 in
theorem padundone_of (n : Int) (vt vk vo : Value) (nt nk no : Nat) (ft fk fo : Nat → Int) (w : World) (ht : Ans w vt nt ft) (hk : Ans w vk nk fk) (ho : Ans w vo no fo) : Calls Try.prog 5 #[.int .i64 n, vt, vk, vo] w fun e w' => e = .returned (.bool true) ∧ Below w.heap.size w w' := by
  have HAL := (show Hid (∀ W, Calls Try.prog 21 #[] W fun e w' => e = .returned (.bool true) ∧ Below W.heap.size W w') from alive14)
  have H1 := (show Hid (∀ W, Below w.heap.size w W → Calls Try.prog 8 #[.int .i64 n, vt, vk] W fun e w' => ∃ v, e = .returned (.tuple #[v, .int .i64 (txE n nt nk ft fk)]) ∧ Ans w' v (rl (txE n nt nk ft fk) nt) (wrF n ft fk) ∧ Below W.heap.size W w') from fun W hb => pwr_any n vt vk nt nk ft fk W (ht.2.below hb) (hk.2.below hb))
  have H3 := (show Hid (∀ W, Below w.heap.size w W → Calls Try.prog 11 #[.int .i64 n, vo, vt] W fun e w' => ∃ v, e = .returned (.tuple #[v, .int .i64 (txE n no nt fo ft)]) ∧ Ans w' v (rl (txE n no nt fo ft) no) (rdF n fo ft) ∧ Below W.heap.size W w') from fun W hb => prd_any n vo vt no nt fo ft W (ho.2.below hb) (ht.2.below hb))
  have HT : Hid (Ans w vt nt ft) := ht
  have HK : Hid (Ans w vk nk fk) := hk
  have HO : Hid (Ans w vo no fo) := ho
  have H2 := (show Hid (txE n nt nk ft fk = 0 → ∀ W v, Below w.heap.size w W → Ans W v nt (wrF n ft fk) → Calls Try.prog 11 #[.int .i64 n, v, vk] W fun e w' => ∃ v', e = .returned (.tuple #[v', .int .i64 0]) ∧ Ans w' v' nt ft ∧ Below W.heap.size W w') from fun hE W v hb hv => by
    obtain ⟨k1, k2, k3, k4, k5, k6⟩ := txE_zero hE
    refine (prd_any n v vk nt nk (wrF n ft fk) fk W hv.2 (hk.2.below hb)).mono ?_
    have h0 : txE n nt nk (wrF n ft fk) fk = 0 := txE_ok k1 k2 (fun i _ => wr_in k1 _ _ i) k4 k5 k6
    rw [h0]
    rintro e w' ⟨v', h1, h2, h3⟩
    exact ⟨v', h1, h2.ext fun i hi => rd_wr (k3 i hi) (k4 i (Nat.lt_of_lt_of_le hi k6)), h3⟩)
  have H4 := (show Hid (txE n nt nk ft fk = 0 → no = nt → txE n no nt fo ft = 0 → ∀ W v, Below w.heap.size w W → Ans W v nt (rdF n fo ft) → Calls Try.prog 8 #[.int .i64 n, vt, v] W fun e w' => ∃ v', e = .returned (.tuple #[v', .int .i64 0]) ∧ Ans w' v' nt fo ∧ Below W.heap.size W w') from fun hE hno hE2 W v hb hv => by
    obtain ⟨k1, k2, k3, k4, k5, k6⟩ := txE_zero hE
    obtain ⟨_, _, l3, _, _, _⟩ := txE_zero hE2
    refine (pwr_any n vt v nt nt ft (rdF n fo ft) W (ht.2.below hb) hv.2).mono ?_
    have h0 : txE n nt nt ft (rdF n fo ft) = 0 := txE_ok k1 k2 k3 (fun i _ => rd_in k1 _ _ i) k5 (Nat.le_refl _)
    rw [h0]
    rintro e w' ⟨v', h1, h2, h3⟩
    exact ⟨v', h1, h2.ext fun i hi => wr_rd (l3 i (by rw [hno]; exact hi)) (k3 i hi), h3⟩)
  have H5 := (show Hid (txE n nt nk ft fk = 0 → no = nt → txE n no nt fo ft = 0 → ∀ W, Below w.heap.size w W → Calls Try.prog 8 #[.int .i64 n, vo, vk] W fun e w' => ∃ v', e = .returned (.tuple #[v', .int .i64 0]) ∧ Ans w' v' nt (wrF n fo fk) ∧ Below W.heap.size W w') from fun hE hno hE2 W hb => by
    obtain ⟨k1, k2, k3, k4, k5, k6⟩ := txE_zero hE
    obtain ⟨_, _, l3, _, _, _⟩ := txE_zero hE2
    refine (pwr_any n vo vk no nk fo fk W (ho.2.below hb) (hk.2.below hb)).mono ?_
    have h0 : txE n no nk fo fk = 0 := txE_ok k1 k2 l3 k4 (by omega) (by omega)
    rw [h0]
    rintro e w' ⟨v', h1, h2, h3⟩
    rw [hno] at h2
    exact ⟨v', h1, h2, h3⟩)
  have H6 := (show Hid (txE n nt nk ft fk = 0 → no = nt → txE n no nt fo ft = 0 → ∀ W v u, Below w.heap.size w W → Ans W v nt (wrF n fo fk) → Ans W u nt (wrF n ft fk) → Calls Try.prog 11 #[.int .i64 n, v, u] W fun e w' => ∃ v', e = .returned (.tuple #[v', .int .i64 0]) ∧ Ans w' v' nt (rdF n fo ft) ∧ Below W.heap.size W w') from fun hE hno hE2 W v u hb hv hu => by
    obtain ⟨k1, k2, k3, k4, k5, k6⟩ := txE_zero hE
    obtain ⟨_, _, l3, _, _, _⟩ := txE_zero hE2
    refine (prd_any n v u nt nt (wrF n fo fk) (wrF n ft fk) W hv.2 hu.2).mono ?_
    have h0 : txE n nt nt (wrF n fo fk) (wrF n ft fk) = 0 := txE_ok k1 k2 (fun i _ => wr_in k1 _ _ i) (fun i _ => wr_in k1 _ _ i) k5 (Nat.le_refl _)
    rw [h0]
    rintro e w' ⟨v', h1, h2, h3⟩
    exact ⟨v', h1, h2.ext fun i hi => rd_two (l3 i (by rw [hno]; exact hi)) (k3 i hi), h3⟩)
  obtain ⟨⟨at', ct, rfl, _⟩, _, _, e, hmt, _⟩ := ht
  cases e
  obtain ⟨⟨ak, ck, rfl, _⟩, _⟩ := hk
  obtain ⟨⟨ao, co, rfl, _⟩, _, _, e, hmo, _⟩ := ho
  cases e
  unfold maxLen at hmt hmo
  generalize wrF n ft fk = F1 at *
  generalize rdF n fo ft = F3 at *
  generalize wrF n fo fk = F5 at *
  generalize txE n nt nk ft fk = E1 at *
  generalize txE n no nt fo ft = E2 at *
  go_enter Try.func5, Try.ntmps5
  go_wp2_with fail
  refine (HAL.out _).mono ?_
  rintro e W1 ⟨rfl, hb1⟩
  have HB1 := (show Hid (Below w.heap.size w W1) from hb1)
  clear hb1 HAL
  go_wp2_with fail
  refine (H1.out _ HB1.out).mono ?_
  rintro e W2 ⟨v2, rfl, ha2, hb2⟩
  have HB2 := (show Hid (Below w.heap.size w W2) from HB1.out.trans (hb2.mono HB1.out.size))
  clear hb2 H1 HB1
  by_cases hE1 : E1 = 0
  case neg =>
    have hd1 : (E1 != 0) = true := by simp [hE1]
    obtain ⟨⟨a2, c2, rfl, _⟩, _⟩ := ha2
    clear hE1 H2 H3 H4 H5 H6 HT HK HO
    go_wp2
    go_ret
    exact ⟨rfl, HB2.out⟩
  subst hE1
  rw [rl_zero] at ha2
  have HA2 : Hid (Ans W2 v2 nt F1) := ha2
  clear ha2
  go_wp2_with fail
  refine (H2.out (by first | rfl | trivial) _ _ HB2.out HA2.out).mono ?_
  rintro e W3 ⟨v3, rfl, ha3, hb3⟩
  have HA2' : Hid (Ans W3 v2 nt F1) := Ans.below HA2.out hb3
  have HB3 := (show Hid (Below w.heap.size w W3) from HB2.out.trans (hb3.mono HB2.out.size))
  have HS := (show Hid (Calls Try.prog 10 #[v3, .slice at' nt ct] W3 fun e w' => e = .returned (.bool true) ∧ Below W3.heap.size W3 w') from ans_same ha3 (Ans.below HT.out HB3.out) rfl fun _ _ => rfl)
  clear ha3 hb3 H2 HA2 HB2
  go_wp2_with fail
  refine Calls.mono HS.out ?_
  rintro e W4 ⟨rfl, hb4⟩
  have HA2 : Hid (Ans W4 v2 nt F1) := Ans.below HA2'.out hb4
  have HB4 := (show Hid (Below w.heap.size w W4) from HB3.out.trans (hb4.mono HB3.out.size))
  clear hb4 HS HA2' HB3
  by_cases hno : no = nt
  case neg =>
    have hd1 : (((no : Nat) : Int) != ((nt : Nat) : Int)) = true := by simp; omega
    clear hno H3 H4 H5 H6 HT HK HO HA2
    go_wp2
    go_ret
    exact ⟨rfl, HB4.out⟩
  subst hno
  have hd1 : (((no : Nat) : Int) != ((no : Nat) : Int)) = false := by simp
  go_wp2_with fail
  refine (H3.out _ HB4.out).mono ?_
  rintro e W5 ⟨v5, rfl, ha5, hb5⟩
  have HA2' : Hid (Ans W5 v2 no F1) := Ans.below HA2.out hb5
  have HB5 := (show Hid (Below w.heap.size w W5) from HB4.out.trans (hb5.mono HB4.out.size))
  clear hb5 H3 HB4 HA2
  by_cases hE2 : E2 = 0
  case neg =>
    have hd2 : (E2 != 0) = true := by simp [hE2]
    obtain ⟨⟨a2, c2, rfl, _⟩, _⟩ := ha5
    clear hE2 H4 H5 H6 HT HK HO HA2'
    go_wp2
    go_ret
    exact ⟨rfl, HB5.out⟩
  subst hE2
  rw [rl_zero] at ha5
  have HA5 : Hid (Ans W5 v5 no F3) := ha5
  clear ha5
  go_wp2_with fail
  refine (H4.out (by first | rfl | trivial) (by first | rfl | trivial) (by first | rfl | trivial) _ _ HB5.out HA5.out).mono ?_
  rintro e W6 ⟨v6, rfl, ha6, hb6⟩
  have HA2 : Hid (Ans W6 v2 no F1) := Ans.below HA2'.out hb6
  have HA5' : Hid (Ans W6 v5 no F3) := Ans.below HA5.out hb6
  have HB6 := (show Hid (Below w.heap.size w W6) from HB5.out.trans (hb6.mono HB5.out.size))
  have HS := (show Hid (Calls Try.prog 10 #[v6, .slice ao no co] W6 fun e w' => e = .returned (.bool true) ∧ Below W6.heap.size W6 w') from ans_same ha6 (Ans.below HO.out HB6.out) rfl fun _ _ => rfl)
  clear ha6 hb6 H4 HA2' HA5 HB5
  go_wp2_with fail
  refine Calls.mono HS.out ?_
  rintro e W7 ⟨rfl, hb7⟩
  have HA2' : Hid (Ans W7 v2 no F1) := Ans.below HA2.out hb7
  have HA5 : Hid (Ans W7 v5 no F3) := Ans.below HA5'.out hb7
  have HB7 := (show Hid (Below w.heap.size w W7) from HB6.out.trans (hb7.mono HB6.out.size))
  clear hb7 HS HA2 HA5' HB6
  go_wp2_with fail
  refine (H5.out (by first | rfl | trivial) (by first | rfl | trivial) (by first | rfl | trivial) _ HB7.out).mono ?_
  rintro e W8 ⟨v8, rfl, ha8, hb8⟩
  have HA8 : Hid (Ans W8 v8 no F5) := ha8
  have HA2 : Hid (Ans W8 v2 no F1) := Ans.below HA2'.out hb8
  have HA5' : Hid (Ans W8 v5 no F3) := Ans.below HA5.out hb8
  have HB8 := (show Hid (Below w.heap.size w W8) from HB7.out.trans (hb8.mono HB7.out.size))
  clear ha8 hb8 H5 HA2' HA5 HB7
  go_wp2_with fail
  refine (H6.out (by first | rfl | trivial) (by first | rfl | trivial) (by first | rfl | trivial) _ _ _ HB8.out HA8.out HA2.out).mono ?_
  rintro e W9 ⟨v9, rfl, ha9, hb9⟩
  have HB9 := (show Hid (Below w.heap.size w W9) from HB8.out.trans (hb9.mono HB8.out.size))
  have HS := (show Hid (Calls Try.prog 10 #[v9, v5] W9 fun e w' => e = .returned (.bool true) ∧ Below W9.heap.size W9 w') from ans_same ha9 (Ans.below HA5'.out hb9) rfl fun _ _ => rfl)
  clear ha9 hb9 H6 HA2 HA5' HA8 HB8
  go_wp2_with fail
  refine Calls.mono HS.out ?_
  rintro e W10 ⟨rfl, hb10⟩
  have HB10 := (show Hid (Below w.heap.size w W10) from HB9.out.trans (hb10.mono HB9.out.size))
  clear hb10 HS HB9
  go_wp2
  go_ret
  exact ⟨by simp, HB10.out⟩
end Go.Proofs.Ytccdbghhjcdcfaa
