/-
  Contract of the document's own Columns.
-/
import Derived.Test.YtennpknkcaeafacYNums
import Derived.Test.YtennpknkcaeafacYCol
namespace Go.Proofs.Ytennpknkcaeafac
open Go.RowKit PK Sm

/-- The first j letters of column k, L letters in a row. -/
def colJ (L k j : Nat) : List Nat := (List.range j).map fun q => k + q * L
/-- How many letters column k has, of n. -/
def colN (n L k : Nat) : Nat := (n - k + (L - 1)) / L
/-- The columns under letter c, as far as column K. -/
def letL (l : List UInt8) (n L c K : Nat) : List Nat := (List.range K).flatMap fun k => if (l.getD k 0).toNat = 65 + c then colJ L k (colN n L k) else []
/-- The columns under the first C letters. -/
def allL (l : List UInt8) (n L C : Nat) : List Nat := (List.range C).flatMap fun c => letL l n L c L
theorem colJ_step (L k j : Nat) : colJ L k (j + 1) = colJ L k j ++ [k + j * L] := by unfold colJ; rw [List.range_succ, List.map_append]; rfl
theorem colJ_len (L k j : Nat) : (colJ L k j).length = j := by simp [colJ]
theorem letL_step (l : List UInt8) (n L c K : Nat) : letL l n L c (K + 1) = letL l n L c K ++ (if (l.getD K 0).toNat = 65 + c then colJ L K (colN n L K) else []) := by simp [letL, List.range_succ, List.flatMap_append]
theorem allL_step (l : List UInt8) (n L C : Nat) : allL l n L (C + 1) = allL l n L C ++ letL l n L C L := by simp [allL, List.range_succ, List.flatMap_append]
theorem colN_iff {n L k : Nat} (hL : 1 ≤ L) (q : Nat) : q < colN n L k ↔ k + q * L < n := by
  unfold colN
  have h1 : q < (n - k + (L - 1)) / L ↔ (q + 1) * L ≤ n - k + (L - 1) := by
    rw [← Nat.le_div_iff_mul_le (by omega)]
    omega
  rw [h1, Nat.succ_mul]
  generalize q * L = x
  omega
theorem colN_le {n L k : Nat} (hL : 1 ≤ L) (hL2 : L ≤ 256) (hn : n ≤ 65536) : colN n L k ≤ 65792 := by
  unfold colN
  have := Nat.div_le_self (n - k + (L - 1)) L
  omega
theorem letL_len (l : List UInt8) {n L : Nat} (c : Nat) (hL : 1 ≤ L) (hL2 : L ≤ 256) (hn : n ≤ 65536) : ∀ K, (letL l n L c K).length ≤ K * 65792
  | 0 => by simp [letL]
  | K + 1 => by
    have ih := letL_len l c hL hL2 hn K
    have := colN_le (n := n) (L := L) (k := K) hL hL2 hn
    rw [letL_step, List.length_append, Nat.succ_mul]
    by_cases h : (l.getD K 0).toNat = 65 + c
    · rw [if_pos h, colJ_len]; omega
    · rw [if_neg h, List.length_nil, Nat.add_zero]; exact Nat.le_trans ih (Nat.le_add_right _ _)
set_option maxRecDepth 100000 in
theorem allL_len (l : List UInt8) {n L : Nat} (hL : 1 ≤ L) (hL2 : L ≤ 256) (hn : n ≤ 65536) : ∀ C, (allL l n L C).length ≤ C * 16842752
  | 0 => by simp [allL]
  | C + 1 => by
    have ih := allL_len l hL hL2 hn C
    have h1 := letL_len l C hL hL2 hn L
    have h2 : L * 65792 ≤ 256 * 65792 := Nat.mul_le_mul_right _ hL2
    rw [allL_step, List.length_append, Nat.succ_mul]
    omega
theorem own_iter {w : World} {B : Nat} {v : Value} {l : List Nat} (h : OwnsL w B v l) {k : Nat} {s : ByteArray} {pos : Nat} (hk : w.heap[k]? = some (.stringIter s pos)) : v.ownBlock ≠ some k := fun hg => by
  rcases h.2 with ⟨rfl, _⟩ | ⟨g', cap, cur, rfl, hb, hg', _⟩
  · cases hg
  · simp [Value.ownBlock] at hg
    subst hg
    rw [hk] at hg'
    cases hg'
theorem own_iterAt {w : World} {B : Nat} {v : Value} {l : List Nat} (h : OwnsL w B v l) {k : Nat} {s : ByteArray} {pos : Nat} (hk : w.heap[k]? = some (.stringIter s pos)) (pos' : Nat) : OwnsL (w.iterAt k s pos') B v l := by
  have hne := own_iter h hk
  obtain ⟨h1, h2⟩ := h
  refine ⟨h1, ?_⟩
  rcases h2 with h2 | ⟨g, cap, cur, a, b, c, d⟩
  · exact .inl h2
  · have hkg : g ≠ k := fun e1 => hne (by rw [a, e1]; rfl)
    exact .inr ⟨g, cap, cur, a, b, (Lib.iterAt_other w k g s pos' hkg).trans c, d⟩
theorem decode_let (s : ByteArray) (pos : Nat) (hp : pos < s.size) (hl : Pl.Lets s.data.toList) : Utf8.decode s pos = ((s.data.toList.getD pos 0).toNat, 1) := by
  have hp' : pos < s.data.toList.length := by rw [← Pl.size_len]; exact hp
  rw [Pl.decode_eq, List.drop_eq_getElem_cons hp']
  have hm : s.data.toList[pos] ∈ s.data.toList := List.getElem_mem _
  have := of_decide_eq_true (show decide _ = true from hl _ hm)
  rw [Pl.decL_low _ _ (by omega)]
  simp [List.getD, List.getElem?_eq_getElem hp']
theorem num_bd {l : List UInt8} (h : Pl.Lets l) (i : Nat) (hi : i < l.length) : (l.getD i 0).toNat ≤ 90 := by
  have hm : l.getD i 0 ∈ l := by
    have : l[i]? = some (l.getD i 0) := by simp [List.getD, List.getElem?_eq_getElem hi]
    exact List.mem_of_getElem? this
  have := of_decide_eq_true (show decide _ = true from h _ hm)
  omega
set_option maxRecDepth 100000 in
set_option maxHeartbeats 8000000 in
theorem rcol_ok (n : Nat) (s : ByteArray) (hn : n ≤ 65536) (hck : ckE s.data.toList = 0) (hcat : ckAt s.data.toList = 0) (hlet : Pl.Lets s.data.toList) (hs0 : 1 ≤ s.size) (hs : s.size ≤ 256) (w : World) :
    Calls Try.prog 12 #[.int .i64 (n : Nat), .string s] w fun e w' => ∃ (v : Value) (B : Nat), e = .returned (.tuple #[v, .int .i64 0]) ∧ OwnsL w' B v (allL s.data.toList n s.size 26) ∧ Below w.heap.size w w' := by
  obtain ⟨i0, hi0, hz0, hz1, hz2⟩ := y_info_parts y_info_int
  have HCK := (show Hid (∀ W, Calls Try.prog 33 #[.string s] W fun e w' => e = .returned (.agg #[.int .i64 0, .int .i64 0]) ∧ Below W.heap.size W w') from fun W => by
    have := rcheck_all s W
    rw [hck, hcat] at this
    exact this)
  have HLET := (show Hid (Pl.Lets s.data.toList) from hlet)
  have h7 : ¬ (s.size : Int) < 1 := by omega
  have h8 : ¬ (256 : Int) < (s.size : Int) := by omega
  clear hck hcat hlet
  go_enter Try.func12, Try.ntmps12
  go_wp2_with (first | (go_at_call 33; refine (HCK.out _).mono ?_; rintro e W1 ⟨rfl, hb1⟩))
  have hbw := hb1.alloc hb1.size (.cells #[.int .i64 0, .int .i64 0] 46)
  clear hb1 HCK h7 h8
  generalize W1.alloc (.cells #[.int .i64 0, .int .i64 0] 46) = X at *
  have hzx := hbw.size
  go_loopw [8, 7] (fun c o W => ∃ C : Nat, C ≤ 26 ∧ c = .int .i32 ((65 + C : Nat) : Int) ∧ OwnsL W X.heap.size o (allL s.data.toList n s.size C) ∧ Below X.heap.size X W) (fun c _ _ => (91 - intOf c).toNat)
  case atStart => exact ⟨0, by omega, rfl, OwnsL.nil _ _, Below.refl _ _⟩
  case round =>
    obtain ⟨C, hC, rfl, hown, hb⟩ := hrel
    obtain ⟨c1, hc1⟩ : ∃ c1, c1 = 65 + C := ⟨_, rfl⟩
    have HC1 : Hid (c1 = 65 + C) := hc1
    have hc1b : c1 ≤ 91 := by omega
    rw [← hc1]
    by_cases hlt : C < 26
    · have hc90 : ((c1 : Nat) : Int) ≤ 90 := by omega
      have hzb := hb.size
      obtain ⟨V, rfl⟩ : ∃ V, V = wr := ⟨_, rfl⟩
      clear hc1
      go_wp2
      go_loopw [7] (fun o W => ∃ pos : Nat, pos ≤ s.size ∧ W.heap[V.heap.size]? = some (.stringIter s pos) ∧ OwnsL W X.heap.size o (allL s.data.toList n s.size C ++ letL s.data.toList n s.size C pos) ∧ Below X.heap.size X W) (fun _ W => s.size - W.iterPos V.heap.size)
      case atStart => exact ⟨0, Nat.zero_le _, World.iter_heap V s 0, by rw [show letL s.data.toList n s.size C 0 = [] from rfl, List.append_nil]; exact World.ownsRow.alloc hown _, hb.alloc hzb _⟩
      case round =>
        clear hown hb
        obtain ⟨pos, hps, hk, hown, hb⟩ := hrel
        have hmu : Hid (wr.iterPos V.heap.size = pos) := iterPos_of hk
        by_cases hp : pos < s.size
        · have hnext0 : ∀ ty, (Instr.next (.pointer (some ⟨V.heap.size, 0, none⟩)) true ty).run Try.prog wr = _ := fun ty => Lib.run_next_any_at wr V.heap.size s pos ty hk hp
          rw [decode_let s pos hp HLET.out] at hnext0
          have hown1 := own_iterAt hown hk (pos + 1)
          have hk1 := Lib.iterAt_heap wr V.heap.size s pos (pos + 1) hk
          have hb1 : Below X.heap.size X (wr.iterAt V.heap.size s (pos + 1)) := Lib.below_iterAt hb hzb s _
          have hst := letL_step s.data.toList n s.size C pos
          have HLB := (show Hid ((s.data.toList.getD pos 0).toNat ≤ 90) from (num_bd HLET.out pos (by rw [← Pl.size_len]; exact hp)))
          generalize (s.data.toList.getD pos 0).toNat = x at hnext0 hst HLB
          generalize wr.iterAt V.heap.size s (pos + 1) = Y at hnext0 hown1 hk1 hb1
          have hnext := hnext0
          clear hnext0 hown hb hk
          have HL1 := (show Hid ((allL s.data.toList n s.size C ++ letL s.data.toList n s.size C pos).length ≤ 500000000) from by
            have h1 := allL_len s.data.toList hs0 hs hn C
            have h2 := letL_len s.data.toList C hs0 hs hn pos
            have h3 : C * 16842752 ≤ 26 * 16842752 := Nat.mul_le_mul_right _ hC
            have h4 : pos * 65792 ≤ 256 * 65792 := Nat.mul_le_mul_right _ (by omega)
            rw [Hid, List.length_append]; omega)
          have HST := (show Hid (allL s.data.toList n s.size C ++ letL s.data.toList n s.size C (pos + 1) = (allL s.data.toList n s.size C ++ letL s.data.toList n s.size C pos) ++ (if x = 65 + C then colJ s.size pos (colN n s.size pos) else [])) from by rw [Hid, hst, List.append_assoc])
          have HJ := (show Hid (∀ q, q < colN n s.size pos ↔ pos + q * s.size < n) from fun q => colN_iff hs0 q)
          have HJ2 := (show Hid (colN n s.size pos ≤ 65792) from colN_le hs0 hs hn)
          generalize allL s.data.toList n s.size C ++ letL s.data.toList n s.size C pos = acc at *
          generalize colN n s.size pos = J at *
          have hzy := hb1.size
          have hVY : V.heap.size < Y.heap.size := (Array.getElem?_eq_some_iff.1 hk1).1
          clear hst
          by_cases hx : x = c1
          · have hxe : x = 65 + C := by rw [hx]; exact HC1.out
            rw [if_pos hxe] at HST
            subst hx
            clear hxe
            go_wp2
            go_loopw [11, 7] (fun i o W => ∃ (j m : Nat), i = .int .i64 (m : Nat) ∧ m ≤ 70000 ∧ j ≤ J ∧ Hid (m = pos + j * s.size) ∧ W.heap[V.heap.size]? = some (.stringIter s (pos + 1)) ∧ OwnsL W X.heap.size o (acc ++ colJ s.size pos j) ∧ Below X.heap.size X W) (fun i _ _ => (70000 - intOf i).toNat)
            case atStart => exact ⟨0, pos, rfl, by omega, by omega, by rw [Hid, Nat.zero_mul]; rfl, hk1, by rw [show colJ s.size pos 0 = [] from rfl, List.append_nil]; exact hown1, hb1⟩
            case round =>
              clear hown1 hb1 hk1 hnext
              obtain ⟨j, m, rfl, hm70, hj, HM, hk2, hown2, hb2⟩ := hrel
              have hzb2 := hb2.size
              by_cases hmn : m < n
              · have hjJ : j < J := (HJ.out j).2 (by rw [← HM.out]; exact hmn)
                have HL2 := (show Hid ((acc ++ colJ s.size pos j).length ≤ 600000000) from by
                  have := HL1.out
                  have := HJ2.out
                  rw [Hid, List.length_append, colJ_len]; omega)
                have HST2 := (show Hid (acc ++ colJ s.size pos (j + 1) = (acc ++ colJ s.size pos j) ++ [m]) from by rw [Hid, colJ_step, List.append_assoc, ← HM.out])
                have hown2' : wr.ownsRow X.heap.size 3 1 u7 (acc ++ colJ s.size pos j).length (nnums (acc ++ colJ s.size pos j)) := hown2
                have HNI := (show Hid (u7.ownBlock ≠ some V.heap.size) from own_iter hown2 hk2)
                have hVr : V.heap.size < wr.heap.size := (Array.getElem?_eq_some_iff.1 hk2).1
                generalize acc ++ colJ s.size pos j = acc2 at *
                go_wp2_with (first
                  | (at_builtin; refine wpList_append_own _ rfl _ _ 22 rfl X.heap.size 3 i0 (.int .i64 0) 1 8 Try.underlying22 hi0 hz0 hz1 hz2 rfl (by decide) _ _ _ rfl (World.ownsRow.alloc hown2' _) ⟨wr.heap.size, 0, none⟩ 1 1 [.int .i64 (m : Nat)] rfl rfl (cell_one_new _ _ _) (fun u hu => by simp at hu; subst hu; rfl) (by have := HL2.out; unfold maxLen; omega) (by have := HL2.out; omega) (by simp; omega) ?_; intro v5 w5 hown5 hgrow5 _))
                have hk5 : w5.heap[V.heap.size]? = some (.stringIter s (pos + 1)) := (hgrow5.block _ (by simp; omega) (fun e => HNI.out e.symm)).trans ((Below.heap_alloc wr _ V.heap.size hVr).trans hk2)
                go_roundw
                case rel =>
                  refine ⟨j + 1, m + s.size, by go_num, by omega, by omega, by rw [Hid, HM.out, Nat.succ_mul, Nat.add_assoc], hk5, ?_, (hb2.alloc hzb2 _).grown hgrow5 (by simp; omega) (fun k hk => (World.ownsRow.lt hown2' k hk).1)⟩
                  rw [HST2.out]
                  unfold OwnsL
                  rw [List.length_append, nnums_append]
                  exact hown5
                case measure => simp [intOf] <;> omega
              · have hjJ : j = J := by
                  have h1 : ¬ j < J := fun h => hmn (by rw [HM.out]; exact (HJ.out j).1 h)
                  omega
                subst hjJ
                go_wp2
                go_roundw
                case rel => exact ⟨pos + 1, by omega, hk2, by rw [HST.out]; exact hown2, hb2⟩
                case measure =>
                  rw [hmu.out, iterPos_of hk2]
                  omega
          · have hxe : ¬ x = 65 + C := by rw [← HC1.out]; exact hx
            rw [if_neg hxe, List.append_nil] at HST
            have hd : (((x : Nat) : Int) == ((c1 : Nat) : Int)) = false := beq_eq_false_iff_ne.2 (by omega)
            clear hxe hx
            go_wp2
            go_roundw
            case rel => exact ⟨pos + 1, by omega, hk1, by rw [HST.out]; exact hown1, hb1⟩
            case measure =>
              rw [hmu.out, iterPos_of hk1]
              omega
        · have hnext : ∀ ty, (Instr.next (.pointer (some ⟨V.heap.size, 0, none⟩)) true ty).run Try.prog wr = _ := fun ty => Lib.run_next_end_at wr V.heap.size s pos ty hk hp
          obtain rfl : pos = s.size := by omega
          have HF := (show Hid (OwnsL wr X.heap.size u7 (allL s.data.toList n s.size (C + 1))) from by rw [Hid, allL_step]; exact hown)
          clear hown hk
          go_wp2
          go_roundw
          case rel => exact ⟨C + 1, by omega, by rw [show ((65 + (C + 1) : Nat) : Int) = ((c1 : Nat) : Int) + 1 by have := HC1.out; omega], HF.out, hb⟩
          case measure => have := HC1.out; simp [intOf] <;> omega
    · obtain rfl : C = 26 := by omega
      have hc90 : ¬ c1 ≤ 90 := by omega
      go_wp2
      go_ret2
      exact ⟨_, _, rfl, hown, hbw.trans (hb.mono hzx)⟩
end Go.Proofs.Ytennpknkcaeafac
