/-
  The document's Wrong and Back of chapter 2.
-/
import Derived.Test.YtigamiehnjipcaaJn3
import Derived.Test.YtigamiehnjipcaaPBuild
import Derived.Deep.QuietTactic
import Derived.BigQuiet
import Derived.OrdersHeld
namespace Go.Proofs.Ytigamiehnjipcaa
open Go.RowKit PK

theorem built_perm : Try.prog.built 25 [] = some (ints 26 fun _ => 0) := by kernel_rfl
section
variable {ops : Array Oper} {rest : List Oper} {op : Oper} {a : Act} {w : World} {Q : Exit → Act → World → Prop}
theorem load_perm {w : World} (hw : Region.wanted op (yielded ops a.tmps) = true) (x : Operand) (ho : op.op = .load 25 x) (g : Nat) (hx : a.eval x = .pointer (some ⟨g, 0, none⟩)) (f : Nat → Int) (hr : RowAt w g 25 (ints 26 f))
    (h : wpList Try.prog ops Q rest (a.put op.dst (.agg (ints 26 f))) w) : wpList Try.prog ops Q (op :: rest) a w :=
  wpList_step fun K hK => by
    rw [if_pos hw]
    exact wp_load_row 25 x ho g hx 25 (ints 26 f) (0, 0) _ hr Try.underlying25 rfl (by rw [ints_size]; exact info_perm) (hK _ _ h)
end
theorem run_slice_perm (b k : Nat) (hk : k ≤ 26) (W : World) : (Instr.sliceAt 25 (.pointer (some ⟨b, 0, none⟩)) none (some (.int .i64 (k : Int))) none).run Try.prog W = .ok (.slice (some ⟨b, 0, none⟩) k 26) W := by
  have ha : Try.prog.arrayLen 25 = 26 := by kernel_rfl
  have he : Try.prog.elem 25 = 3 := by kernel_rfl
  have h1 := run_sliceAt_array_h (P := Try.prog) W 25 ⟨b, 0, none⟩ (by rw [ha, he]; exact Try.underlying25) .i64 (k : Int) (by omega) (by rw [ha]; omega)
  rw [h1, ha, he]
  cases hq : Try.prog.info? 3 with
  | none => have := info_int; simp [hq] at this
  | some i =>
    have hs : i.size = 1 := by have := info_int; simpa [hq] using this
    simp [sizeOf, typeInfo, hq, hs, slicedAt, Addr.add_mid]
theorem rwrong_any (f : Nat → Int) (w : World) : Calls Try.prog 56 #[.agg (ints 26 f)] w fun e w' => e = .returned (.int .i64 (Pm.wrong f)) ∧ Below w.heap.size w w' := by
  go_enter Try.func56, Try.ntmps56
  go_wp2_with (refine wpList_load_row rfl 25 _ rfl w.heap.size rfl 25 (ints 26 f) (0, 0) _ (RowAt.new w _ _) Try.underlying25 rfl (by rw [ints_size]; exact info_perm) ?_)
  have hrow := RowAt.new w 25 (ints 26 f)
  have hb : Below w.heap.size w (w.alloc (.cells (ints 26 f) 25)) := (Below.refl _ _).alloc (Nat.le_refl _) _
  generalize w.alloc (.cells (ints 26 f) 25) = W at hrow hb ⊢
  go_loop [8] (fun i => ∃ k : Nat, k ≤ 26 ∧ i = .int .i64 k ∧ Hid (Pm.wrongN f k = 0)) (fun i => (26 - intOf i).toNat)
  case atStart => exact ⟨0, by omega, rfl, rfl⟩
  case round =>
    obtain ⟨k, hk, rfl, HN⟩ := hrel
    by_cases hlt : k < 26
    · have hg := run_index_ints 25 3 26 Try.underlying25 Try.underlying3 info_int f k hlt
      by_cases hr : f k < 0 ∨ 26 ≤ f k
      · have H : Hid (Pm.wrong f = 3) := by rw [Hid, Pm.wrong_stop f k HN.out (by rw [Pm.bad_range f k hr]; decide) hlt, Pm.bad_range f k hr]
        rcases hr with hr | hr
        · go_wp2
          go_ret
          exact ⟨ret_int H.out.symm, hb⟩
        · have hr0 : ¬ f k < 0 := by omega
          have hr1 : 25 < f k := by omega
          go_wp2
          go_ret
          exact ⟨ret_int H.out.symm, hb⟩
      · obtain ⟨n, hn⟩ : ∃ n : Nat, f k = n := ⟨(f k).toNat, by omega⟩
        have hn26 : n < 26 := by omega
        have hn25 : ¬ (25 < n) := by omega
        have HM : Hid (f k = n) := hn
        rw [hn] at hg
        clear hr hn
        have hsl := run_slice_perm w.heap.size k (by omega)
        go_wp2
        clear hsl
        go_loop [21] (fun i => ∃ m : Nat, m ≤ k ∧ i = .int .i64 m ∧ Hid (Pm.seen f m n = false)) (fun i => (k - intOf i).toNat)
        case atStart => exact ⟨0, by omega, rfl, rfl⟩
        case round =>
          obtain ⟨m, hm, rfl, HS⟩ := hrel
          by_cases hmk : m < k
          · have hc := hrow.cell (ints_get f (i := m) (by omega))
            have hss := Pm.seen_succ f m n
            rw [HS.out, Bool.false_or] at hss
            cases he : (f m == (n : Int))
            · rw [he] at hss
              have HSS : Hid (Pm.seen f (m + 1) n = false) := hss
              clear hss
              go_wp2
              exact ⟨⟨m + 1, by omega, by go_num, HSS⟩, by simp [intOf]; omega⟩
            · have hsk : Pm.seen f k n = true := by
                unfold Pm.seen
                simp
                exact ⟨m, hmk, eq_of_beq he⟩
              have H8 : Hid (Pm.wrong f = 8) := by
                have h8 := Pm.bad_fit f k n HM.out hn26 hsk
                rw [Hid, Pm.wrong_stop f k HN.out (by rw [h8]; decide) hlt, h8]
              clear hss hsk
              go_wp2
              go_ret
              exact ⟨ret_int H8.out.symm, hb⟩
          · have HMK : Hid (m = k) := by rw [Hid]; omega
            go_wp2
            exact ⟨⟨k + 1, by omega, by go_num, by rw [Hid, Pm.wrongN_succ f k HN.out, Pm.bad_ok f k n HM.out hn26 (by rw [← HMK.out]; exact HS.out)]⟩, by simp [intOf]; omega⟩
    · have HK : Hid (k = 26) := by rw [Hid]; omega
      go_wp2
      go_ret
      exact ⟨ret_int (Pm.wrong_end f k HN.out HK.out).symm, hb⟩
theorem rfrom_any (p : Nat → Nat) (hp : Pm.IsPerm p) (k : Nat) (hk : k < 26) (w : World) :
    Calls Try.prog 85 #[.agg (ints 26 (Pm.up p)), .int .i64 (k : Nat)] w fun e w' => e = .returned (.int .i64 (Pm.inv p k : Nat)) ∧ Below w.heap.size w w' := by
  obtain ⟨hv1, hv2⟩ := hp.inv_spec k hk
  obtain ⟨v, hv⟩ : ∃ v, v = Pm.inv p k := ⟨_, rfl⟩
  rw [← hv] at hv1 hv2 ⊢
  clear hv
  go_enter Try.func85, Try.ntmps85
  go_wp2_with (refine wpList_load_row rfl 25 _ rfl w.heap.size rfl 25 (ints 26 (Pm.up p)) (0, 0) _ (RowAt.new w _ _) Try.underlying25 rfl (by rw [ints_size]; exact info_perm) ?_)
  have hb : Below w.heap.size w (w.alloc (.cells (ints 26 (Pm.up p)) 25)) := (Below.refl _ _).alloc (Nat.le_refl _) _
  generalize w.alloc (.cells (ints 26 (Pm.up p)) 25) = W at hb ⊢
  have HV : Hid (p v = k) := hv2
  clear hv2
  go_loop [8] (fun i => ∃ m : Nat, m ≤ v ∧ i = .int .i64 m) (fun i => (26 - intOf i).toNat)
  case atStart => exact ⟨0, by omega, rfl⟩
  case round =>
    obtain ⟨m, hm, rfl⟩ := hrel
    have hm26 : m < 26 := by omega
    have hg := run_index_ints 25 3 26 Try.underlying25 Try.underlying3 info_int (Pm.up p) m hm26
    simp only [Pm.up] at hg
    by_cases e : m = v
    · have HE : Hid (m = v) := e
      have he : (((p m : Nat) : Int) == ((k : Nat) : Int)) = true := by rw [e, HV.out]; simp
      clear e
      go_wp2
      go_ret
      exact ⟨ret_int (by rw [HE.out]), hb⟩
    · have he : (((p m : Nat) : Int) == ((k : Nat) : Int)) = false := by
        simp
        intro h2
        exact e (hp.inj m v hm26 hv1 (by rw [HV.out]; omega))
      go_wp2
      exact ⟨⟨m + 1, by omega, by go_num⟩, by simp [intOf]; omega⟩
theorem after1r {w W1 : World} {T : TypeId} {f z : Nat → Int} (hb : Below ((w.alloc (.cells (ints 26 f) T)).alloc (.cells (ints 26 z) T)).heap.size ((w.alloc (.cells (ints 26 f) T)).alloc (.cells (ints 26 z) T)) W1) :
    RowAt W1 w.heap.size T (ints 26 f) ∧ RowAt W1 (w.heap.size + 1) T (ints 26 z) ∧ Below w.heap.size w W1 ∧ w.heap.size + 2 ≤ W1.heap.size := by
  have hs := hb.size
  simp at hs
  exact ⟨RowAt.below ((RowAt.new w _ _).alloc _) hb (by simp; omega), RowAt.below (RowAt.newAt (by simp)) hb (by simp), (((Below.refl _ _).alloc (Nat.le_refl _) _).alloc (by simp) _).trans (hb.mono (by simp; omega)), hs⟩
def fillTo (v : Nat → Int) (k : Nat) : Nat → Int := fun i => if i < k then v i else 0
theorem fillTo_step (v : Nat → Int) (k : Nat) : upd (fillTo v k) k (v k) = fillTo v (k + 1) := by
  funext i
  unfold fillTo upd
  by_cases e : i = k
  · subst e; simp
  · by_cases h : i < k
    · simp [e, h]; omega
    · have : ¬ i < k + 1 := by omega
      simp [e, h, this]
theorem fillTo_zero (v : Nat → Int) : ints 26 (fillTo v 0) = ints 26 fun _ => 0 := ints_ext fun i _ => by simp [fillTo]
theorem fillTo_all (v : Nat → Int) : ints 26 (fillTo v 26) = ints 26 v := ints_ext fun i hi => by simp [fillTo, hi]
theorem rback_ok (p : Nat → Nat) (hp : Pm.IsPerm p) (w : World) :
    Calls Try.prog 78 #[.agg (ints 26 (Pm.up p))] w fun e w' => e = .returned (.tuple #[.agg (ints 26 (Pm.up (Pm.inv p))), .int .i64 0]) ∧ Below w.heap.size w w' := by
  have H0 : Hid (Pm.wrong (Pm.up p) = 0) := Pm.wrong_up p hp
  go_enter Try.func78, Try.ntmps78
  go_wp2_with (first
    | refine load_perm rfl _ rfl w.heap.size rfl (Pm.up p) ((RowAt.new w _ _).alloc _) ?_)
  rw [zero26]
  refine (rwrong_any (Pm.up p) _).mono ?_
  rintro e W1 ⟨rfl, hb0⟩
  obtain ⟨r1, r3, hb1, hs1⟩ := after1r hb0
  clear hb0
  rw [H0.out]
  go_wp2
  rw [zero26]
  go_loopw [6] (fun i W => ∃ k : Nat, k ≤ 26 ∧ i = .int .i64 k ∧ RowAt W W1.heap.size 25 (ints 26 (fillTo (Pm.up (Pm.inv p)) k)) ∧ RowAt W w.heap.size 25 (ints 26 (Pm.up p)) ∧ RowAt W (w.heap.size + 1) 25 (ints 26 fun _ => 0) ∧ Below w.heap.size w W ∧ W1.heap.size < W.heap.size) (fun i _ => (26 - intOf i).toNat)
  case atStart => exact ⟨0, by omega, rfl, by rw [fillTo_zero]; exact RowAt.new _ _ _, r1.alloc _, r3.alloc _, hb1.alloc (by omega) _, by simp⟩
  case round =>
    clear r1 r3 hb1
    obtain ⟨k, hk, rfl, ro, r1, r3, hb, hsz⟩ := hrel
    by_cases hlt : k < 26
    · have hco := ro.cell (ints_get (fillTo (Pm.up (Pm.inv p)) k) hlt)
      have hfo := ro.frozen k
      have HST : Hid (upd (fillTo (Pm.up (Pm.inv p)) k) k (Pm.up (Pm.inv p) k) = fillTo (Pm.up (Pm.inv p)) (k + 1)) := fillTo_step _ k
      have HV : Hid (Pm.up (Pm.inv p) k = ((Pm.inv p k : Nat) : Int)) := rfl
      go_wp2_with (first | refine load_perm rfl _ rfl _ rfl _ r1 ?_)
      refine (rfrom_any p hp k hlt _).mono ?_
      rintro e W2 ⟨rfl, hc⟩
      have hs2 := hc.size
      have ro2 := ro.below hc ro.lt
      have hco2 := ro2.cell (ints_get (fillTo (Pm.up (Pm.inv p)) k) hlt)
      have hfo2 := ro2.frozen k
      clear hco hfo
      go_wp2
      go_roundw
      case rel =>
        refine ⟨k + 1, by omega, by go_num, ?_, (r1.below hc r1.lt).setOther _ _ (by simp; omega), (r3.below hc r3.lt).setOther _ _ (by simp; omega), (hb.trans (hc.mono (by omega))).setCell (by simp; omega) _, by simp; omega⟩
        rw [← HST.out, HV.out, ← ints_set]
        exact ro2.set k _
      case measure => simp [intOf]; omega
    · have HK : Hid (k = 26) := by rw [Hid]; omega
      rw [HK.out, fillTo_all] at ro
      go_wp2_with (first
        | refine load_perm rfl _ rfl _ rfl _ ro ?_
        | refine wpList_store_row rfl 25 _ _ rfl (w.heap.size + 1) (ints 26 (Pm.up (Pm.inv p))) rfl rfl 25 _ r3 (by rw [ints_size]; exact info_perm) (by simp only [ints_size]) (ints_one _ _) ?_)
      exact bodyPost_ret (v := .tuple #[.agg (ints 26 (Pm.up (Pm.inv p))), .int .i64 0]) (results_cell_tmp2 rfl _ _ (w.heap.size + 1) 25 _ (0, 0) _ _ rfl rfl (r3.row _) Try.underlying25 rfl (by rw [ints_size]; exact info_perm)) rfl ⟨rfl, Below.setRow hb _ (by omega) _⟩
end Go.Proofs.Ytigamiehnjipcaa
