/-
  TableauKasiski, for whatever it is asked.
-/
import Derived.Test.YtlgijlfojkpeaadLVKas2
namespace Go.Proofs.Ytlgijlfojkpeaad
open Go.RowKit PK Vg

theorem wf_le {n : Int} (h : (Lit.int .i64 n).wf = true) : -9223372036854775808 ≤ n ∧ n ≤ 9223372036854775807 := by
  have h1 : (decide (IntKind.i64.min ≤ n) && decide (n ≤ IntKind.i64.max)) = true := h
  rw [Bool.and_eq_true, decide_eq_true_eq, decide_eq_true_eq] at h1
  exact h1
theorem ext_iff (t : ByteArray) (n a b : Nat) : t.extract a (a + n) = t.extract b (b + n) ↔ pcs t.data.toList n a = pcs t.data.toList n b := by
  rw [← ext_pcs, ← ext_pcs]
  constructor
  · intro e; rw [e]
  · intro e
    have : ∀ x y : ByteArray, x.data.toList = y.data.toList → x = y := fun x y h => by cases x; cases y; simp at h; rw [h]
    exact this _ _ e
theorem near_of_mem {l : List (Nat × Nat)} {i d m : Nat} (h : (i, d) ∈ l) (hd : (d : Int) ≤ (m : Int) - (i : Int)) : Near (fun k => ((l.getD k (0, 0)).1 : Nat)) (fun k => ((l.getD k (0, 0)).2 : Nat)) (i : Nat) ((m : Int) - (i : Int)) l.length := by
  obtain ⟨j, hj, e⟩ := List.mem_iff_getElem.1 h
  have e2 : l.getD j (0, 0) = (i, d) := by rw [List.getD_eq_getElem?_getD, List.getElem?_eq_getElem hj, e]; rfl
  exact ⟨j, hj, by show (((l.getD j (0, 0)).1 : Nat) : Int) = _; rw [e2], by show (((l.getD j (0, 0)).2 : Nat) : Int) ≤ _; rw [e2]; exact hd⟩
theorem kasiski_any (k : Int) (key t : ByteArray) (n : Int) (w : World) (hwf : (Lit.int .i64 n).wf = true) : Calls Try.prog 5 #[.int .i64 k, .string key, .string t, .int .i64 n] w fun e w' => e = .returned (.bool true) ∧ Below w.heap.size w w' := by
  have hn := wf_le hwf
  have h1 := Pl.size_len key
  have h2 := Pl.size_len t
  rcases lk_cases k key.data.toList t.data.toList with ⟨e1, e2, hk, hm, ha, hb⟩ | e1
  · obtain ⟨K, rfl⟩ : ∃ K : Nat, k = K := ⟨k.toNat, by omega⟩
    have hl := writeL_length K key.data.toList t.data.toList
    have hls := writeL_ls K key.data.toList t.data.toList
    have hc := ck_of_ls hls (by omega)
    have hsz := ba_size (writeL K key.data.toList t.data.toList)
    have hW := fun W => vwr_ok K (by omega) key t ha.1 ha.2.1 (by omega) hb.1 hb.2.1 (by omega) ha.2.2 hb.2.2.1 W
    by_cases hoff : K = 4 ∨ 300 < t.size
    · exact kas_off K key t _ n hoff w hW
    · have hk4 : K ≠ 4 := fun e => hoff (.inl e)
      have ht : t.size ≤ 300 := by have : ¬ 300 < t.size := fun e => hoff (.inr e); omega
      by_cases hn1 : n < 1
      · exact kas_low K key t _ n hk4 ht hn1 w hW (fun W => vrep_bad3 _ n hc.1 hc.2 (by rw [hsz]; omega) hn1 W)
      · obtain ⟨N, rfl⟩ : ∃ N : Nat, n = N := ⟨n.toNat, by omega⟩
        have hR := fun W => vrep_ok ⟨(writeL K key.data.toList t.data.toList).toArray⟩ N (by omega) (by omega) hc.1 hc.2 (by rw [hsz]; omega) W
        by_cases hnt : t.size < N
        · refine kas_high K key t _ N hk4 ht hnt (by omega) w hW (fun W => (hR W).mono ?_)
          rintro e W' ⟨v, e3, _, e4⟩
          exact ⟨v, e3, e4⟩
        · have hrl : (rpL (writeL K key.data.toList t.data.toList) N).length ≤ 4096 := by
            have := repsF_length (pcs (writeL K key.data.toList t.data.toList) N) (rpN (writeL K key.data.toList t.data.toList) N) (rpN (writeL K key.data.toList t.data.toList) N)
            have h3 : rpN (writeL K key.data.toList t.data.toList) N ≤ 4096 := by unfold rpN; omega
            unfold rpL; omega
          refine kas_run K key t _ N hk4 (by omega) ht (by rw [hsz]; omega) (by omega) (by omega) _ hrl _ _ w hW hR ?_ ?_
          · intro i m hi hm' hmod hex
            rw [ext_iff] at hex ⊢
            exact kasiski hk4 (by omega) (by omega) (by rw [← h1]; exact hmod) hex
          · intro i m him hmt hex
            rw [ext_iff] at hex
            obtain ⟨m', h3, h4, h5⟩ := found (p := pcs (writeL K key.data.toList t.data.toList) N) (N := rpN (writeL K key.data.toList t.data.toList) N) him (by unfold rpN; omega) hex.symm
            exact near_of_mem h5 (by omega)
  · exact kas_bad k key t n e1 w
end Go.Proofs.Ytlgijlfojkpeaad
