/-
  Contracts of perm.lengthsOf and perm.Type.
-/
import Derived.Test.YtigamiehnjipcaaKCyc
namespace Go.Proofs.Ytigamiehnjipcaa
open Go.RowKit PK

/-- How many of the lists are so long. -/
def cnt (ls : List (List Nat)) (n : Nat) : Nat := (ls.filter fun l => l.length == n).length
theorem cnt_le (ls : List (List Nat)) (n : Nat) : cnt ls n ≤ ls.length := List.length_filter_le _ _
theorem cnt_snoc (ls : List (List Nat)) (l : List Nat) : ints 27 (upd (Pm.up (cnt ls)) l.length ((cnt ls l.length : Nat) + 1)) = ints 27 (Pm.up (cnt (ls ++ [l]))) := ints_ext fun i _ => by
  simp only [Pm.up, cnt, List.filter_append, List.length_append]
  by_cases e : i = l.length
  · subst e
    simp
  · rw [upd_other _ _ e]
    have : (l.length == i) = false := by simp; omega
    simp [this, Pm.up, cnt]
theorem zero_lengths : (Try.prog.info? 103).map (·.size) = some 27 := by kernel_rfl

set_option maxRecDepth 100000 in
set_option maxHeartbeats 2000000 in
theorem lengthsOf_any (ls : List (List Nat)) (h1 : 0 < ls.length) (h2 : ls.length ≤ 26) (h3 : ∀ l ∈ ls, 0 < l.length ∧ l.length ≤ 26) (B : Nat) (v : Value) (w : World) (hall : OwnsAll w B v ls) :
    Calls Try.prog 60 #[v] w fun e w' => e = .returned (.agg (ints 27 (Pm.up (cnt ls)))) ∧ Below w.heap.size w w' := by
  obtain ⟨vs, hv1, hv2⟩ := hall
  obtain ⟨g, cap, rfl⟩ := own_formK hv1 h1
  have hvl : vs.length = ls.length := by have := hv1.1; omega
  have hg : g < w.heap.size := (World.ownsRow.lt hv1 g rfl).2
  have HL : Hid (∀ l ∈ ls, 0 < l.length ∧ l.length ≤ 26) := h3
  have HV1 : Hid (w.ownsRow B 23 1 (.slice (some ⟨g, 0, none⟩) ls.length cap) ls.length vs) := hv1
  have HV2 : Hid (∀ (k : Nat) (u : Value) (l : List Nat), vs[k]? = some u → ls[k]? = some l → OwnsN w B u l) := hv2
  have HVL : Hid (vs.length = ls.length) := hvl
  clear hv1 hv2 hvl h3
  obtain ⟨n, hn⟩ : ∃ n, n = ls.length := ⟨_, rfl⟩
  have HN : Hid (n = ls.length) := hn
  rw [← hn] at h1 h2 HV1 ⊢
  clear hn
  go_enter Try.func60, Try.ntmps60
  go_wp2
  rw [zero27]
  go_loopw [8] (fun i W => ∃ k : Nat, k ≤ n ∧ i = .int .i64 k ∧ RowAt W w.heap.size 103 (ints 27 fun _ => 0) ∧ RowAt W (w.heap.size + 1) 103 (ints 27 (Pm.up (cnt (ls.take k)))) ∧ Below w.heap.size w W) (fun i _ => (n - intOf i).toNat)
  case atStart => exact ⟨0, by omega, rfl, (RowAt.new w _ _).alloc _, RowAt.newAt (by simp), ((Below.refl _ _).alloc (Nat.le_refl _) _).alloc (by simp) _⟩
  case round =>
    obtain ⟨k, hk, rfl, hr0, hr1, hb⟩ := hrel
    by_cases hlt : k < n
    · obtain ⟨l, hl⟩ : ∃ l, ls[k]? = some l := ⟨ls[k]'(by rw [← HN.out]; exact hlt), List.getElem?_eq_getElem _⟩
      obtain ⟨u, hu⟩ : ∃ u, vs[k]? = some u := ⟨vs[k]'(by rw [HVL.out, ← HN.out]; exact hlt), List.getElem?_eq_getElem _⟩
      have hll := HL.out l (List.mem_of_getElem? hl)
      have hou := HV2.out k u l hu hl
      obtain ⟨g', cap', rfl⟩ := own_formK hou hll.1
      have hcu : wr.cell? ⟨g, k, none⟩ = some (.slice (some ⟨g', 0, none⟩) l.length cap') := by
        rw [hb.cell (p := ⟨g, k, none⟩) hg, World.ownsRow.cellAt HV1.out k (by omega)]
        exact hu
      have HLK : Hid (ls[k]? = some l) := hl
      obtain ⟨m, hm⟩ : ∃ m, m = l.length := ⟨_, rfl⟩
      have HM : Hid (m = l.length) := hm
      rw [← hm] at hcu hll
      obtain ⟨hm1, hm2⟩ := hll
      clear hl hu hou hm
      have hcl : cnt (ls.take k) m ≤ 26 := by have h5 := cnt_le (ls.take k) m; have h6 := List.length_take_le k ls; omega
      have hcc := hr1.cell (ints_get (Pm.up (cnt (ls.take k))) (i := m) (by omega))
      have hcf := hr1.frozen m
      simp only [Pm.up] at hcc
      generalize hq : cnt (ls.take k) m = q at hcc hcl
      have HQ : Hid (cnt (ls.take k) m = q) := hq
      clear hq
      go_wp2
      go_roundw
      case rel =>
        refine ⟨k + 1, by omega, by go_num, hr0.setOther _ _ (by simp), ?_, hb.setCell (by simp) _⟩
        have e1 : ls.take (k + 1) = ls.take k ++ [l] := by
          obtain ⟨h7, h8⟩ := List.getElem?_eq_some_iff.1 HLK.out
          rw [List.take_succ_eq_append_getElem h7, h8]
        have h9 := hr1.set m (.int .i64 ((q : Int) + 1))
        rw [ints_set] at h9
        rw [e1, ← cnt_snoc, ← HM.out, HQ.out]
        exact h9
      case measure => simp [intOf]; omega
    · have HK : Hid (ls.take k = ls) := by rw [Hid]; exact List.take_of_length_le (by have := HN.out; omega)
      rw [HK.out] at hr1
      go_wp2_with (first
        | refine wpList_load_row rfl 103 _ rfl (w.heap.size + 1) rfl 103 (ints 27 (Pm.up (cnt ls))) (0, 0) _ hr1 Try.underlying103 rfl (by rw [ints_size]; exact zero_lengths) ?_
        | refine wpList_store_row rfl 103 _ _ rfl w.heap.size (ints 27 (Pm.up (cnt ls))) rfl rfl 103 _ hr0 (by rw [ints_size]; exact zero_lengths) (by simp only [ints_size]) (ints_one _ _) ?_)
      exact bodyPost_ret (v := .agg (ints 27 (Pm.up (cnt ls)))) (results_cell_row rfl _ _ w.heap.size 103 _ (0, 0) _ rfl (hr0.row _) Try.underlying103 rfl (by rw [ints_size]; exact zero_lengths)) rfl ⟨rfl, Below.setRow hb _ (Nat.le_refl _) _⟩

/-- The lengths, from the longest on: those of the k longest kinds. -/
def tyDown (c : Nat → Nat) : Nat → List Nat
  | 0 => []
  | k + 1 => tyDown c k ++ List.replicate (c (26 - k)) (26 - k)
theorem tyDown_len (c : Nat → Nat) (h : ∀ n, c n ≤ 26) : ∀ k, (tyDown c k).length ≤ 26 * k
  | 0 => by simp [tyDown]
  | k + 1 => by
    have := tyDown_len c h k
    have := h (26 - k)
    simp [tyDown]
    omega
def typeOf (p : Nat → Nat) : List Nat := tyDown (cnt (Pm.cycs p 26)) 26
theorem cycs_pos {p : Nat → Nat} (hp : Pm.IsPerm p) : 0 < (Pm.cycs p 26).length := by
  apply Nat.pos_of_ne_zero
  intro h
  have := Pm.flat_length hp
  rw [List.eq_nil_of_length_eq_zero h] at this
  simp at this
theorem cycs_each {p : Nat → Nat} (hp : Pm.IsPerm p) : ∀ l ∈ Pm.cycs p 26, 0 < l.length ∧ l.length ≤ 26 := fun l hl => by
  obtain ⟨i, hi, rfl, _⟩ := Pm.mem_cycs p 26 l hl
  rw [Pm.cyc_length]
  have := Pm.len_is hp i hi
  exact ⟨this.pos, this.le⟩

set_option maxRecDepth 100000 in
set_option maxHeartbeats 1000000 in
theorem type_ok (p : Nat → Nat) (hp : Pm.IsPerm p) (w : World) :
    Calls Try.prog 33 #[.agg (ints 26 (Pm.up p))] w fun e w' => ∃ v, e = .returned (.tuple #[v, .int .i64 0]) ∧ OwnsN w' w.heap.size v (typeOf p) ∧ Below w.heap.size w w' := by
  obtain ⟨i0, hi0, hz0, hz1, hz2⟩ := info_parts info_int3
  have H0 : Hid (Pm.firstBad (fun _ => Pm.up p) 1 = 0) := one_ok p hp
  go_enter Try.func33, Try.ntmps33
  go_wp2_with (first
    | refine wpList_load_row rfl 25 _ rfl w.heap.size rfl 25 (ints 26 (Pm.up p)) (0, 0) _ (RowAt.new w _ _) Try.underlying25 rfl (by rw [ints_size]; exact info_perm) ?_
    | refine wpList_build1 rfl 57 25 _ rfl 26 (Pm.up p) rfl (by decide) Try.underlying57 zero_perm (by decide) ?_)
  refine (firstWrong_any (fun _ => Pm.up p) 1 (by decide) _ _ (by simp) (range_one (RowAt.newAt (by simp)))).mono ?_
  rintro e W1 ⟨rfl, hb0⟩
  obtain ⟨r1, hb1, hs1⟩ := after0 hb0
  clear hb0
  rw [H0.out]
  go_wp2_with (refine wpList_load_row rfl 25 _ rfl w.heap.size rfl 25 (ints 26 (Pm.up p)) (0, 0) _ r1 Try.underlying25 rfl (by rw [ints_size]; exact info_perm) ?_)
  refine (cycles_any p hp _).mono ?_
  rintro e W2 ⟨v, rfl, hall, hb2⟩
  go_wp2_with fail
  refine (lengthsOf_any (Pm.cycs p 26) (cycs_pos hp) (Pm.cycs_len p 26) (cycs_each hp) _ v _ hall).mono ?_
  rintro e W3 ⟨rfl, hb3⟩
  have hs2 := hb2.size
  have hs3 := hb3.size
  have hbw : Below w.heap.size w W3 := (hb1.trans (hb2.mono (by omega))).trans (hb3.mono (by omega))
  have hcnt : ∀ n, cnt (Pm.cycs p 26) n ≤ 26 := fun n => Nat.le_trans (cnt_le _ _) (Pm.cycs_len p 26)
  clear hall hb1 hb2 hb3 r1 H0
  obtain ⟨c, hc⟩ : ∃ c, c = cnt (Pm.cycs p 26) := ⟨_, rfl⟩
  have HC : Hid (c = cnt (Pm.cycs p 26)) := hc
  rw [← hc] at hcnt ⊢
  clear hc
  go_wp2_with (first
    | (refine wpList_store_row rfl 103 _ _ rfl W3.heap.size (ints 27 (Pm.up c)) rfl rfl 103 _ (RowAt.new W3 _ _) (by rw [ints_size]; exact zero_lengths) (by rw [ints_size]; rfl) (ints_one _ _) ?_; rw [World.setRow_alloc_new]))
  go_loopw [6, 7] (fun v n W => ∃ k : Nat, k ≤ 26 ∧ n = .int .i64 ((26 - k : Nat) : Int) ∧ OwnsN W (W3.heap.size + 1) v (tyDown c k) ∧ RowAt W W3.heap.size 103 (ints 27 (Pm.up c)) ∧ Below w.heap.size w W) (fun _ n _ => (intOf n).toNat)
  case atStart => exact ⟨0, by omega, rfl, World.ownsRow_nil _ _ _ _, RowAt.new _ _ _, hbw.alloc (by omega) _⟩
  case round =>
    clear hbw
    obtain ⟨k, hk, rfl, hown, hrc, hb⟩ := hrel
    have hsz := hrc.lt
    have htl := tyDown_len c hcnt k
    by_cases hlt : k < 26
    · have hpos : (0 : Int) < ((26 - k : Nat) : Int) := by omega
      have hcc := hrc.cell (ints_get (Pm.up c) (i := 26 - k) (by omega))
      simp only [Pm.up] at hcc
      have hq := hcnt (26 - k)
      obtain ⟨q, hqq⟩ : ∃ q, q = c (26 - k) := ⟨_, rfl⟩
      have HQ : Hid (q = c (26 - k)) := hqq
      rw [← hqq] at hcc hq
      clear hqq
      obtain ⟨n, hn⟩ : ∃ n, n = 26 - k := ⟨_, rfl⟩
      have HN : Hid (n = 26 - k) := hn
      rw [← hn] at hpos hcc ⊢
      have hn27 : n < 27 := by omega
      have hpn : 0 < n := by omega
      clear hn
      have HSZ : Hid (W3.heap.size < wr.heap.size ∧ w.heap.size + 2 ≤ W1.heap.size ∧ W1.heap.size ≤ W2.heap.size ∧ W2.heap.size ≤ W3.heap.size) := ⟨hsz, hs1, hs2, hs3⟩
      have HCN : Hid (∀ n, c n ≤ 26) := hcnt
      have HTL : Hid ((tyDown c k).length ≤ 26 * k ∧ k < 26 ∧ q ≤ 26) := ⟨htl, hlt, hq⟩
      clear hsz hs1 hs2 hs3 hcnt htl hlt hk hq
      go_wp2
      go_loopw [6, 24] (fun v j W => ∃ m : Nat, m ≤ q ∧ j = .int .i64 m ∧ OwnsN W (W3.heap.size + 1) v (tyDown c k ++ List.replicate m n) ∧ RowAt W W3.heap.size 103 (ints 27 (Pm.up c)) ∧ Below w.heap.size w W) (fun _ j _ => (q - intOf j).toNat)
      case atStart => exact ⟨0, by omega, rfl, by simpa using hown, hrc, hb⟩
      case round =>
        clear hown hrc hb hcc
        obtain ⟨m, hm, rfl, hown, hrc, hb⟩ := hrel
        obtain ⟨_, hs1, hs2, hs3⟩ := HSZ.out
        obtain ⟨htl, hlt, hq⟩ := HTL.out
        have hsz := hrc.lt
        by_cases hmq : m < q
        · have hlm : (tyDown c k ++ List.replicate m n).length ≤ 1000 := by simp; omega
          go_wp2_with (first
            | (at_builtin; refine wpList_append_own _ rfl _ _ 23 rfl (W3.heap.size + 1) 3 i0 (.int .i64 0) 1 8 Try.underlying23 hi0 hz0 hz1 hz2 rfl (by decide) _ _ _ rfl (World.ownsRow.alloc hown _) ⟨wr.heap.size, 0, none⟩ 1 1 [.int .i64 (n : Nat)] rfl rfl (cell_one_new _ _ _) (fun u hu => by simp at hu; subst hu; rfl) (by unfold maxLen; omega) (by omega) (by simp; omega) ?_; intro v' w1 hown' hgrow _))
          go_roundw
          case rel =>
            refine ⟨m + 1, by omega, by go_num, ?_, row_grown (hrc.alloc _) hgrow (fun j hj => (World.ownsRow.lt hown j hj).1), (hb.alloc (by omega) _).grown hgrow (by simp; omega) (fun j hj => by have := (World.ownsRow.lt hown j hj).1; omega)⟩
            have e1 : tyDown c k ++ List.replicate (m + 1) n = (tyDown c k ++ List.replicate m n) ++ [n] := by rw [List.replicate_succ', List.append_assoc]
            rw [e1, OwnsN, nums_append, List.length_append]
            exact hown'
          case measure => simp [intOf]; omega
        · have HM : Hid (m = q) := by rw [Hid]; omega
          go_wp2
          go_roundw
          case rel =>
            refine ⟨k + 1, by omega, ?_, ?_, hrc, hb⟩
            · have : ((26 - (k + 1) : Nat) : Int) = (n : Int) - 1 := by rw [HN.out]; omega
              rw [this]
            · show OwnsN _ _ _ (tyDown c k ++ List.replicate (c (26 - k)) (26 - k))
              rw [← HQ.out, ← HN.out, ← HM.out]
              exact hown
          case measure => simp [intOf]; omega
    · have HK : Hid (k = 26) := by rw [Hid]; omega
      have hz : ((26 - k : Nat) : Int) = 0 := by omega
      go_wp2
      go_ret2
      refine ⟨_, rfl, ?_, hb⟩
      have := own_leK (B' := w.heap.size) hown (by omega)
      rw [typeOf, ← HC.out, ← HK.out]
      exact this
end Go.Proofs.Ytigamiehnjipcaa
