/-
  ChartSignals, of any machine, keys and turn.
-/
import Derived.Test.YtibkcgjofcfoaaaLCSi
import Derived.Test.YtibkcgjofcfoaaaChDo
namespace Go.Proofs.Ytibkcgjofcfoaaa
open Go.RowKit PK Vg

set_option maxRecDepth 100000 in
set_option maxHeartbeats 2000000 in
theorem signals_bad (a b c : Value) (rf pl : Nat → Int) (E : Int) (hE : (E != 0) = true) (v1 : Value) (by' : Int) (w : World) (HA : Hid (∀ W, Calls Try.prog 19 #[] W fun e w' => e = .returned (.bool true) ∧ Below W.heap.size W w'))
    (HC : Hid (∀ W, Below w.heap.size w W → Calls Try.prog 10 #[.agg (mac a b c rf pl)] W fun e w' => e = .returned (.tuple #[.agg (ints 78 fun _ => 0), .int .i64 E]) ∧ Below W.heap.size W w')) : Calls Try.prog 6 #[.agg (mac a b c rf pl), v1, .int .i64 by'] w fun e w' => e = .returned (.bool true) ∧ Below w.heap.size w w' := by
  have h0 := MgAt.new w a b c rf pl
  have hz78 := o_zero v_zero_three
  go_enter Try.func6, Try.ntmps6
  go_wp2_with fail
  refine (HA.out _).mono ?_
  rintro e W1 ⟨rfl, hb⟩
  have h1 := h0.step hb
  clear hb h0 HA
  go_wp2_with (first | refine wpList_load_row rfl 27 _ rfl w.heap.size rfl 27 (mac a b c rf pl) (0, 0) _ h1.row Try.underlying27 rfl (by rw [mac_size]; exact v_info_mac) ?_)
  refine (HC.out _ h1.below).mono ?_
  rintro e W2 ⟨rfl, hb⟩
  have h2 := h1.step hb
  have HBE := (show Hid _ from Below.setRow (h2.below.alloc h2.below.size (.cells (ints 78 fun _ => 0) 43)) W2.heap.size h2.below.size (ints 78 fun _ => 0))
  clear hb h1 HC h2
  go_wp2_with (first | refine wpList_store_row rfl 43 _ _ rfl W2.heap.size (ints 78 fun _ => 0) rfl rfl 43 _ (RowAt.new W2 _ _) (by rw [ints_size]; exact v_info_three) (by simp only [ints_size]) (ints_one _ _) ?_)
  go_ret
  exact ⟨rfl, HBE.out⟩
theorem dbl_ok {g : Gm} (hg : gE g = 0) {l : List UInt8} (hl : Ls l) (h3 : l.length = 3) : dbE g l = 0 ∧ dbS g l = Om.wr (maOf g) (maOf g).st (l ++ l) := by
  have hc := ck_of_ls hl (by omega)
  have e : dbE g l = 0 := by unfold dbE; rw [if_neg (fun h => h hg), if_neg (fun h => h hc.1), if_neg (fun h => h h3)]
  exact ⟨e, by unfold dbS; rw [e, if_neg (fun h => h rfl)]⟩
theorem db_inv {g : Gm} (hg : gE g = 0) {l : List UInt8} (h : dbE g l = 0) : Ls l ∧ l.length = 3 := by
  unfold dbE at h
  rw [if_neg (fun h => h hg)] at h
  rcases ck_cases l with ⟨e1, _, _, e4⟩ | e1
  · rw [if_neg (fun h => h e1)] at h
    refine ⟨ls_of e4, ?_⟩
    by_cases e : l.length = 3
    · exact e
    · rw [if_pos e] at h; cases h
  · have e1' : ckE l ≠ 0 := by simpa using e1
    rw [if_pos e1'] at h
    exact absurd h e1'
theorem tmod_bd (b : Int) : -25 ≤ b.tmod 26 ∧ b.tmod 26 ≤ 25 := by
  rcases Int.le_total 0 b with h | h
  · rw [Int.tmod_eq_emod_of_nonneg h]; omega
  · have e : b = -(-b) := by omega
    rw [e, Int.neg_tmod, Int.tmod_eq_emod_of_nonneg (by omega)]
    omega
theorem kb_ls {x y z : Nat} (hx : x < 26) (hy : y < 26) (hz : z < 26) : Ls (kb x y z).data.toList ∧ (kb x y z).data.toList.length = 3 := by
  refine ⟨fun c hc => ?_, rfl⟩
  have hc' : c = ltr x ∨ c = ltr y ∨ c = ltr z := by simpa [kb] using hc
  rcases hc' with rfl | rfl | rfl
  · rw [ltr_toNat hx]; omega
  · rw [ltr_toNat hy]; omega
  · rw [ltr_toNat hz]; omega
theorem chartsignals_of (HA : ∀ W, Calls Try.prog 19 #[] W fun e w' => e = .returned (.bool true) ∧ Below W.heap.size W w') (vm : Value) (g : Gm) (v1 : Value) (n : Nat) (hn : n ≤ 8796093022208) (T1 : Nat → ByteArray) (by' : Int) (w : World) (hm : MacAt w vm g) (hv1 : StrsAt w v1 n T1) : Calls Try.prog 6 #[vm, v1, .int .i64 by'] w fun e w' => e = .returned (.bool true) ∧ Below w.heap.size w w' := by
  have CH := fun W (hb : Below w.heap.size w W) => chart_any vm g W (hm.below hb)
  have HD := fun W (t : ByteArray) (hb : Below w.heap.size w W) => double_any vm g t W (hm.below hb)
  obtain ⟨a, b, c, rfl, _⟩ := hm
  unfold chA at CH
  by_cases hg : gE g = 0
  · obtain ⟨hM, _⟩ := ok_maOf hg
    rw [if_pos hg, hg] at CH
    have hbd := tmod_bd by'
    have hY : ∀ k : Nat, k < 26 → (((k : Int) * 3 + by'.tmod 26 + 26) % 26).toNat < 26 ∧ ((((k : Int) * 3 + by'.tmod 26 + 26) % 26).toNat : Int) = ((k : Int) * 3 + by'.tmod 26 + 26) % 26 := fun k hk => by omega
    have hK : ∀ k : Nat, k < 26 → Ls (kb k (((k : Int) * 3 + by'.tmod 26 + 26) % 26).toNat (25 - k)).data.toList ∧ (kb k (((k : Int) * 3 + by'.tmod 26 + 26) % 26).toNat (25 - k)).data.toList.length = 3 := fun k hk => kb_ls hk (hY k hk).1 (by omega)
    refine signals_run a b c g.rf g.pl (chC (maOf g)) by' v1 n T1 w HA CH (fun t => ⟨(dbS g t.data.toList).toArray⟩) (fun t => dbE g t.data.toList) (fun t => dbAt g t.data.toList) HD (fun k => (((k : Int) * 3 + by'.tmod 26 + 26) % 26).toNat) hY (fun k hk => ?_) hbd.1 hbd.2 (fun W v hb hs => ?_) hv1 hn (fun W v hb hs he => ?_)
    · have h1 := dbl_ok hg (hK k hk).1 (hK k hk).2
      refine ⟨h1.1, ?_⟩
      rw [Pl.size_len]
      show (dbS g _).length = 6
      rw [h1.2, Om.wr_length, List.length_append, (hK k hk).2]
    · have h1 := signals_any v 26 _ W hs
      rcases day_tells hM (T := fun k => ⟨(dbS g (kb k (((k : Int) * 3 + by'.tmod 26 + 26) % 26).toNat (25 - k)).data.toList).toArray⟩) (K := fun k => (kb k (((k : Int) * 3 + by'.tmod 26 + 26) % 26).toNat (25 - k)).data.toList) (n := 26) (fun j hj => ⟨by
          show (⟨(dbS g _).toArray⟩ : ByteArray) = ⟨(Om.wr (maOf g) (maOf g).st _).toArray⟩
          rw [(dbl_ok hg (hK j hj).1 (hK j hj).2).2], hK j hj⟩) with ⟨_, i, hi, c, hc, hno⟩ | ⟨h2, h3⟩
      · exact absurd (all_there hM (K := fun k => (kb k (((k : Int) * 3 + by'.tmod 26 + 26) % 26).toNat (25 - k)).data.toList) (by'.tmod 26) (fun k hk => num_ltr hk) (fun k hk => by
          show ((num (ltr (((k : Int) * 3 + by'.tmod 26 + 26) % 26).toNat) : Nat) : Int) = _
          rw [num_ltr (hY k hk).1]
          exact (hY k hk).2) (fun k hk => num_ltr (by omega)) hi hc) hno
      · rw [h2, h3] at h1
        exact h1
    · have h1 := signals_any v n _ W hs
      rcases day_tells hM (T := fun j => ⟨(dbS g (T1 j).data.toList).toArray⟩) (K := fun j => (T1 j).data.toList) (n := n) (fun j hj => ⟨by
          show (⟨(dbS g _).toArray⟩ : ByteArray) = ⟨(Om.wr (maOf g) (maOf g).st _).toArray⟩
          have h2 := db_inv hg (he j hj)
          rw [(dbl_ok hg h2.1 h2.2).2], db_inv hg (he j hj)⟩) with ⟨h2, _⟩ | ⟨h2, h3⟩
      · refine h1.mono ?_
        rintro e w' ⟨rfl, hb'⟩
        have e1 : sgArr (fun j => (⟨(dbS g (T1 j).data.toList).toArray⟩ : ByteArray)) n = ints 78 fun _ => 0 := by unfold sgArr; rw [h2, if_pos (by decide)]
        exact ⟨⟨_, _, rfl, .inl ⟨h2, by rw [e1, ints_size], by rw [e1]; exact ints_one _ _⟩⟩, hb'⟩
      · refine h1.mono ?_
        rintro e w' ⟨rfl, hb'⟩
        exact ⟨⟨_, _, rfl, .inr ⟨h2, h3⟩⟩, hb'⟩
  · rw [if_neg hg] at CH
    exact signals_bad a b c g.rf g.pl _ (by simpa using hg) v1 by' w HA CH
end Go.Proofs.Ytibkcgjofcfoaaa
