/-
  Contract of the document's Type (chapter 2).
-/
import Derived.Test.YtigamiehnjipcaaKType
namespace Go.Proofs.Ytigamiehnjipcaa
open Go.RowKit PK

set_option maxRecDepth 100000 in
set_option maxHeartbeats 4000000 in
theorem rlong_any (p : Nat → Nat) (hp : Pm.IsPerm p) (i : Nat) (hi : i < 26) (w : World) :
    Calls Try.prog 62 #[.agg (ints 26 (Pm.up p)), .int .i64 (i : Nat)] w fun e w' => e = .returned (.int .i64 (Pm.len p i : Nat)) ∧ Below w.heap.size w w' := by
  have hlen := Pm.len_is hp i hi
  go_enter Try.func62, Try.ntmps62
  have hc0 : (ints 26 (Pm.up p))[i]? = some (.int .i64 (p i : Nat)) := ints_get (Pm.up p) hi
  go_wp2
  have hrow := RowAt.new w 25 (ints 26 (Pm.up p))
  have hb : Below w.heap.size w (w.alloc (.cells (ints 26 (Pm.up p)) 25)) := (Below.refl _ _).alloc (Nat.le_refl _) _
  generalize w.alloc (.cells (ints 26 (Pm.up p)) 25) = W at hrow hb ⊢
  clear hc0
  go_loop [5, 6] (fun n a => ∃ m : Nat, 1 ≤ m ∧ m ≤ Pm.len p i ∧ n = .int .i64 m ∧ a = .int .i64 (Pm.iter p m i : Nat)) (fun n _ => (27 - intOf n).toNat)
  case atStart => exact ⟨1, Nat.le_refl _, hlen.pos, rfl, rfl⟩
  case round =>
    obtain ⟨m, hm1, hm2, rfl, rfl⟩ := hrel
    have hx := Pm.iter_lt hp i hi m
    have hle := hlen.le
    by_cases hlt : m < Pm.len p i
    · have hne : ((Pm.iter p m i : Nat) : Int) ≠ ((i : Nat) : Int) := by have := hlen.min m (by omega) hlt; omega
      have HS : Hid (Pm.iter p (m + 1) i = p (Pm.iter p m i)) := rfl
      have hbne : (((Pm.iter p m i : Nat) : Int) != ((i : Nat) : Int)) = true := by simpa using hne
      have hc := hrow.cell (ints_get (Pm.up p) hx)
      simp only [Pm.up] at hc
      generalize Pm.iter p m i = x at *
      clear hne
      go_wp2
      exact ⟨⟨m + 1, by omega, by omega, by go_num, by rw [HS.out]⟩, by simp [intOf]; omega⟩
    · have HM : Hid (m = Pm.len p i) := by rw [Hid]; omega
      have hret : Pm.iter p m i = i := by rw [HM.out]; exact hlen.ret
      have hbe : (((Pm.iter p m i : Nat) : Int) != ((i : Nat) : Int)) = false := by rw [hret]; simp
      clear hret
      go_wp2
      go_ret
      exact ⟨ret_int (by rw [HM.out]), hb⟩
theorem flat_count (q : Nat → Bool) (n : Nat) : ∀ ls : List (List Nat), (∀ l ∈ ls, ∀ x ∈ l, q x = (l.length == n)) → (ls.flatten.filter q).length = n * cnt ls n
  | [], _ => by simp [cnt]
  | l :: ls, h => by
    have ih := flat_count q n ls (fun x hx => h x (by simp [hx]))
    have hl := h l (by simp)
    rw [List.flatten_cons, List.filter_append, List.length_append, ih]
    unfold cnt
    by_cases e : l.length = n
    · have h1 : l.filter q = l := List.filter_eq_self.2 fun x hx => by rw [hl x hx]; simpa using e
      rw [h1]
      simp [e, Nat.mul_succ]
      omega
    · have h1 : l.filter q = [] := List.filter_eq_nil_iff.2 fun x hx => by rw [hl x hx]; simpa using e
      rw [h1]
      simp [e]
def inN (p : Nat → Nat) (n k : Nat) : Nat := ((List.range k).filter fun i => Pm.len p i == n).length
theorem inN_succ (p : Nat → Nat) (n k : Nat) : inN p n (k + 1) = inN p n k + if Pm.len p k = n then 1 else 0 := by
  unfold inN
  rw [List.range_succ, List.filter_append, List.length_append]
  by_cases e : Pm.len p k = n <;> simp [e]
theorem inN_le (p : Nat → Nat) (n k : Nat) : inN p n k ≤ k := by
  unfold inN
  have := List.length_filter_le (fun i => Pm.len p i == n) (List.range k)
  simpa using this
theorem inN_all {p : Nat → Nat} (hp : Pm.IsPerm p) (n : Nat) : inN p n 26 = n * cnt (Pm.cycs p 26) n := by
  rw [← flat_count (fun i => Pm.len p i == n) n (Pm.cycs p 26) (fun l hl x hx => by
    obtain ⟨i, hi, rfl, _⟩ := Pm.mem_cycs p 26 l hl
    rw [Pm.cyc_length, Pm.len_of_mem hp x i hi hx])]
  unfold inN
  have hn1 : ((List.range 26).filter fun i => Pm.len p i == n).Nodup := List.Pairwise.sublist List.filter_sublist (List.nodup_range (n := 26))
  have hn2 : ((Pm.cycs p 26).flatten.filter fun i => Pm.len p i == n).Nodup := List.Pairwise.sublist List.filter_sublist (Pm.flat_nodup hp 26 (Nat.le_refl _))
  have h1 := Pm.nodup_le _ ((Pm.cycs p 26).flatten.filter fun i => Pm.len p i == n) hn1 (fun x hx => by
    rw [List.mem_filter] at hx ⊢
    exact ⟨(Pm.flat_all hp x).2 (by simpa using hx.1), hx.2⟩)
  have h2 := Pm.nodup_le _ ((List.range 26).filter fun i => Pm.len p i == n) hn2 (fun x hx => by
    rw [List.mem_filter] at hx ⊢
    exact ⟨by simpa using (Pm.flat_all hp x).1 hx.1, hx.2⟩)
  omega
theorem boxed1 {w W1 : World} {T : TypeId} {f : Nat → Int} (hb : Below (w.alloc (.cells (ints 26 f) T)).heap.size (w.alloc (.cells (ints 26 f) T)) W1) : RowAt W1 w.heap.size T (ints 26 f) ∧ Below w.heap.size w W1 ∧ w.heap.size + 1 ≤ W1.heap.size := by
  have hs := hb.size
  simp at hs
  exact ⟨RowAt.below (RowAt.new w _ _) hb (by simp), ((Below.refl _ _).alloc (Nat.le_refl _) _).trans (hb.mono (by simp)), hs⟩
set_option maxRecDepth 100000 in
set_option maxHeartbeats 4000000 in
theorem rtype_ok (p : Nat → Nat) (hp : Pm.IsPerm p) (w : World) :
    Calls Try.prog 34 #[.agg (ints 26 (Pm.up p))] w fun e w' => ∃ v, e = .returned (.tuple #[v, .int .i64 0]) ∧ OwnsN w' w.heap.size v (typeOf p) ∧ Below w.heap.size w w' := by
  obtain ⟨i0, hi0, hz0, hz1, hz2⟩ := info_parts info_int3
  have H0 : Hid (Pm.wrong (Pm.up p) = 0) := Pm.wrong_up p hp
  have hcnt : ∀ n, cnt (Pm.cycs p 26) n ≤ 26 := fun n => Nat.le_trans (cnt_le _ _) (Pm.cycs_len p 26)
  have HIN : Hid (∀ n, inN p n 26 = n * cnt (Pm.cycs p 26) n) := fun n => inN_all hp n
  obtain ⟨c, hc⟩ : ∃ c, c = cnt (Pm.cycs p 26) := ⟨_, rfl⟩
  have HC : Hid (c = cnt (Pm.cycs p 26)) := hc
  rw [← hc] at hcnt HIN
  clear hc
  go_enter Try.func34, Try.ntmps34
  go_wp2_with (first | refine load_perm rfl _ rfl _ rfl _ (RowAt.new w _ _) ?_)
  refine (rwrong_any (Pm.up p) _).mono ?_
  rintro e W1 ⟨rfl, hb0⟩
  obtain ⟨r1, hb1, hs1⟩ := boxed1 hb0
  clear hb0
  rw [H0.out]
  clear H0
  go_wp2
  go_loopw [5, 6] (fun v n W => ∃ k : Nat, k ≤ 26 ∧ n = .int .i64 ((26 - k : Nat) : Int) ∧ OwnsN W (w.heap.size + 1) v (tyDown c k) ∧ RowAt W w.heap.size 25 (ints 26 (Pm.up p)) ∧ Below w.heap.size w W) (fun _ n _ => (intOf n).toNat)
  case atStart => exact ⟨0, by omega, rfl, World.ownsRow_nil _ _ _ _, r1, hb1⟩
  case round =>
    clear r1 hb1 hs1
    obtain ⟨k, hk, rfl, hown, hrp, hb⟩ := hrel
    have htl := tyDown_len c hcnt k
    by_cases hlt : k < 26
    · obtain ⟨n, hn⟩ : ∃ n, n = 26 - k := ⟨_, rfl⟩
      have HN : Hid (n = 26 - k) := hn
      rw [← hn]
      have hpn : 0 < n := by omega
      have hn27 : n ≤ 26 := by omega
      clear hn
      have HTL : Hid ((tyDown c k).length ≤ 26 * k ∧ k < 26) := ⟨htl, hlt⟩
      have HCN : Hid (∀ n, c n ≤ 26) := hcnt
      clear htl hlt hk hcnt
      go_wp2
      go_loopw [7, 8] (fun a i W => ∃ j : Nat, j ≤ 26 ∧ i = .int .i64 j ∧ a = .int .i64 (inN p n j : Nat) ∧ OwnsN W (w.heap.size + 1) u5 (tyDown c k) ∧ RowAt W w.heap.size 25 (ints 26 (Pm.up p)) ∧ Below w.heap.size w W) (fun _ i _ => (26 - intOf i).toNat)
      case atStart => exact ⟨0, by omega, rfl, rfl, hown, hrp, hb⟩
      case round =>
        clear hown hrp hb
        obtain ⟨j, hj, rfl, rfl, hown, hrp, hb⟩ := hrel
        have hsz := hrp.lt
        by_cases hj26 : j < 26
        · have hin := inN_le p n j
          have HS : Hid (inN p n (j + 1) = inN p n j + if Pm.len p j = n then 1 else 0) := inN_succ p n j
          have HLC : Hid (∀ W, Calls Try.prog 62 #[.agg (ints 26 (Pm.up p)), .int .i64 (j : Nat)] W fun e w' => e = .returned (.int .i64 (Pm.len p j : Nat)) ∧ Below W.heap.size W w') := fun W => rlong_any p hp j hj26 W
          generalize inN p n j = q at *
          generalize Pm.len p j = l at *
          by_cases hl : l = n
          · rw [if_pos hl] at HS
            have hle : (((l : Nat) : Int) == ((n : Nat) : Int)) = true := by rw [hl]; simp
            clear hl
            go_wp2_with (first | refine load_perm rfl _ rfl _ rfl _ hrp ?_)
            refine (HLC.out _).mono ?_
            rintro e W2 ⟨rfl, hc2⟩
            go_wp2
            go_roundw
            case rel => exact ⟨j + 1, by omega, by go_num, by rw [HS.out]; go_num, own_belowK hown hc2, hrp.below hc2 hsz, hb.trans (hc2.mono (by omega))⟩
            case measure => simp [intOf]; omega
          · rw [if_neg hl] at HS
            have hle : (((l : Nat) : Int) == ((n : Nat) : Int)) = false := by simp; omega
            clear hl
            go_wp2_with (first | refine load_perm rfl _ rfl _ rfl _ hrp ?_)
            refine (HLC.out _).mono ?_
            rintro e W2 ⟨rfl, hc2⟩
            go_wp2
            go_roundw
            case rel => exact ⟨j + 1, by omega, by go_num, by rw [HS.out]; rfl, own_belowK hown hc2, hrp.below hc2 hsz, hb.trans (hc2.mono (by omega))⟩
            case measure => simp [intOf]; omega
        · have hj' : j = 26 := by omega
          have hIN := HIN.out n
          rw [← hj'] at hIN
          have hqn : ((inN p n j : Nat) : Int) / ((n : Nat) : Int) = ((c n : Nat) : Int) := by
            rw [hIN, Int.natCast_mul]
            exact Int.mul_ediv_cancel_left _ (by omega)
          have hi26 := inN_le p n j
          have hcn := HCN.out n
          obtain ⟨Q, hQ⟩ : ∃ Q, Q = c n := ⟨_, rfl⟩
          have HQ : Hid (Q = c n) := hQ
          rw [← hQ] at hqn hcn
          clear hQ hIN
          generalize inN p n j = I at *
          have hnz : ¬ (n = 0) := by omega
          clear hj'
          go_wp2
          go_loopw [5, 9] (fun v j W => ∃ m : Nat, m ≤ Q ∧ j = .int .i64 m ∧ OwnsN W (w.heap.size + 1) v (tyDown c k ++ List.replicate m n) ∧ RowAt W w.heap.size 25 (ints 26 (Pm.up p)) ∧ Below w.heap.size w W) (fun _ j _ => (Q - intOf j).toNat)
          case atStart => exact ⟨0, by omega, rfl, by simpa using hown, hrp, hb⟩
          case round =>
            clear hown hrp hb hsz
            obtain ⟨m, hm, rfl, hown, hrp, hb⟩ := hrel
            have hsz := hrp.lt
            obtain ⟨htl, hlt⟩ := HTL.out
            by_cases hmq : m < Q
            · have hlm : (tyDown c k ++ List.replicate m n).length ≤ 1000 := by simp; omega
              go_wp2_with (first
                | (at_builtin; refine wpList_append_own _ rfl _ _ 23 rfl (w.heap.size + 1) 3 i0 (.int .i64 0) 1 8 Try.underlying23 hi0 hz0 hz1 hz2 rfl (by decide) _ _ _ rfl (World.ownsRow.alloc hown _) ⟨wr.heap.size, 0, none⟩ 1 1 [.int .i64 (n : Nat)] rfl rfl (cell_one_new _ _ _) (fun u hu => by simp at hu; subst hu; rfl) (by unfold maxLen; omega) (by omega) (by simp; omega) ?_; intro v' w1 hown' hgrow _))
              go_roundw
              case rel =>
                refine ⟨m + 1, by omega, by go_num, ?_, row_grown (hrp.alloc _) hgrow (fun j hj => (World.ownsRow.lt hown j hj).1), (hb.alloc (by omega) _).grown hgrow (by simp; omega) (fun j hj => by have := (World.ownsRow.lt hown j hj).1; omega)⟩
                have e1 : tyDown c k ++ List.replicate (m + 1) n = (tyDown c k ++ List.replicate m n) ++ [n] := by rw [List.replicate_succ', List.append_assoc]
                rw [e1, OwnsN, nums_append, List.length_append]
                exact hown'
              case measure => simp [intOf]; omega
            · have HM : Hid (m = Q) := by rw [Hid]; omega
              go_wp2
              go_roundw
              case rel =>
                refine ⟨k + 1, by omega, ?_, ?_, hrp, hb⟩
                · have : ((26 - (k + 1) : Nat) : Int) = (n : Int) - 1 := by rw [HN.out]; omega
                  rw [this]
                · show OwnsN _ _ _ (tyDown c k ++ List.replicate (c (26 - k)) (26 - k))
                  rw [← HN.out, ← HQ.out, ← HM.out]
                  exact hown
              case measure => simp [intOf]; omega
    · have HK : Hid (k = 26) := by rw [Hid]; omega
      have hz : ((26 - k : Nat) : Int) = 0 := by omega
      go_wp2
      go_ret2
      refine ⟨_, rfl, ?_, hb⟩
      have := own_leK (B' := w.heap.size) hown (by omega)
      rw [typeOf, ← HC.out, ← HK.out]
      exact this
end Go.Proofs.Ytigamiehnjipcaa
