/-
  RotorUndone, for any Write that writes what the document's writes.
-/
import Derived.Test.YtpdjfjmfnmocmafOMa
namespace Go.Proofs.Ytpdjfjmfnmocmaf
open Go.RowKit PK Vg

theorem rwS_ok {g : Gm} {l : List UInt8} (h : rwE g l = 0) : rwS g l = Om.wr (maOf g) (maOf g).st l := by unfold rwS; rw [if_neg (fun e => e h)]
/-- The machine in its variable, and a fault behind it. -/
structure FmAt (w W : World) (a b c : Value) (rf pl : Nat → Int) (q : Nat) (x y : Value) : Prop where
  mg : MgAt w W a b c rf pl
  f : RowAt W q 31 #[x, y]
  ne : w.heap.size < q
section
variable {w W W' : World} {a b c : Value} {rf pl : Nat → Int} {q : Nat} {x y : Value}
theorem FmAt.step (h : FmAt w W a b c rf pl q x y) (hb : Below W.heap.size W W') : FmAt w W' a b c rf pl q x y := ⟨h.mg.step hb, h.f.below hb h.f.lt, h.ne⟩
theorem FmAt.alloc (h : FmAt w W a b c rf pl q x y) (o : Obj) : FmAt w (W.alloc o) a b c rf pl q x y := h.step ((Below.refl _ _).alloc (Nat.le_refl _) o)
theorem FmAt.new (h : MgAt w W a b c rf pl) (x y : Value) : FmAt w (W.alloc (.cells #[x, y] 31)) a b c rf pl W.heap.size x y := ⟨h.alloc _, RowAt.new W _ _, h.lt⟩
theorem FmAt.set (h : FmAt w W a b c rf pl q x y) (u v : Value) : FmAt w ((W.setCell ⟨q, 0, none⟩ u).setCell ⟨q, 1, none⟩ v) a b c rf pl q u v := by
  have := h.ne
  exact ⟨⟨(h.mg.row.setOther _ _ (by simp; omega)).setOther _ _ (by simp; omega), (h.mg.below.setCell (p := ⟨q, 0, none⟩) (by simp; omega) _).setCell (p := ⟨q, 1, none⟩) (by simp; omega) _⟩, (h.f.set 0 u).set 1 v, h.ne⟩
theorem FmAt.draws (h : FmAt w W a b c rf pl q x y) (n : Nat) : FmAt w (W.drewN n) a b c rf pl q x y := ⟨⟨h.mg.row, h.mg.below.trans ⟨rfl, rfl, rfl, Nat.le_refl _, fun _ _ => rfl⟩⟩, h.f, h.ne⟩
end
set_option maxRecDepth 100000 in
set_option maxHeartbeats 2000000 in
theorem rundone_bad (a b c : Value) (rf pl : Nat → Int) (t S : ByteArray) (E A : Int) (hE : (E != 0) = true) (w : World) (HA : Hid (∀ W, Calls Try.prog 6 #[] W fun e w' => e = .returned (.bool true) ∧ Below W.heap.size W w'))
    (H1 : Hid (∀ W, Below w.heap.size w W → Calls Try.prog 7 #[.agg (mac a b c rf pl), .string t] W fun e w' => e = .returned (.tuple #[.string S, .agg #[.int .i64 E, .int .i64 A]]) ∧ Below W.heap.size W w')) : Calls Try.prog 3 #[.agg (mac a b c rf pl), .string t] w fun e w' => e = .returned (.bool true) ∧ Below w.heap.size w w' := by
  have h0 := MgAt.new w a b c rf pl
  go_enter Try.func3, Try.ntmps3
  go_wp2_with fail
  refine (HA.out _).mono ?_
  rintro e W1 ⟨rfl, hb⟩
  have h1 := h0.step hb
  clear hb h0 HA
  go_wp2_with (first | refine wpList_load_row rfl 27 _ rfl w.heap.size rfl 27 (mac a b c rf pl) (0, 0) _ h1.row Try.underlying27 rfl (by rw [mac_size]; exact v_info_mac) ?_)
  refine (H1.out _ h1.below).mono ?_
  rintro e W2 ⟨rfl, hb⟩
  have h2 := h1.step hb
  have hbe := (FmAt.new h2 (.int .i64 E) (.int .i64 A)).mg.below
  clear hb h1 H1
  go_wp2
  go_ret
  exact ⟨rfl, hbe⟩
set_option maxRecDepth 100000 in
set_option maxHeartbeats 2000000 in
theorem rundone_run (a b c : Value) (rf pl : Nat → Int) (t S : ByteArray) (hsz : S.size = t.size) (hs : t.size ≤ 65536) (HNE : Hid (∀ i, i < t.size → S.data.toList.getD i 0 ≠ t.data.toList.getD i 0)) (w : World) (HA : Hid (∀ W, Calls Try.prog 6 #[] W fun e w' => e = .returned (.bool true) ∧ Below W.heap.size W w'))
    (H1 : Hid (∀ W, Below w.heap.size w W → Calls Try.prog 7 #[.agg (mac a b c rf pl), .string t] W fun e w' => e = .returned (.tuple #[.string S, .agg #[.int .i64 0, .int .i64 0]]) ∧ Below W.heap.size W w'))
    (H2 : Hid (∀ W, Below w.heap.size w W → Calls Try.prog 7 #[.agg (mac a b c rf pl), .string S] W fun e w' => e = .returned (.tuple #[.string t, .agg #[.int .i64 0, .int .i64 0]]) ∧ Below W.heap.size W w')) : Calls Try.prog 3 #[.agg (mac a b c rf pl), .string t] w fun e w' => e = .returned (.bool true) ∧ Below w.heap.size w w' := by
  have h0 := MgAt.new w a b c rf pl
  have hcv := fun w => Lib.run_convert_string_bytes (P := Try.prog) w 9 34 5 S Try.underlying9 Try.underlying34 Try.underlying5
  have HSZ : Hid (S.size = t.size) := hsz
  have hsz2 : ((S.size : Int) != (t.size : Int)) = false := by rw [hsz]; simp
  clear hsz
  go_enter Try.func3, Try.ntmps3
  go_wp2_with fail
  refine (HA.out _).mono ?_
  rintro e W1 ⟨rfl, hb⟩
  have h1 := h0.step hb
  clear hb h0 HA
  go_wp2_with (first | refine wpList_load_row rfl 27 _ rfl w.heap.size rfl 27 (mac a b c rf pl) (0, 0) _ h1.row Try.underlying27 rfl (by rw [mac_size]; exact v_info_mac) ?_)
  refine (H1.out _ h1.below).mono ?_
  rintro e W2 ⟨rfl, hb⟩
  have h2 := FmAt.new (h1.step hb) (.int .i64 0) (.int .i64 0)
  clear hb h1 H1
  go_upto_region 6 with fail
  obtain ⟨V, hV⟩ : ∃ V, V = W2.alloc (.cells #[.int .i64 0, .int .i64 0] 31) := ⟨_, rfl⟩
  rw [← hV] at h2 ⊢
  obtain ⟨q, hq⟩ : ∃ q, q = W2.heap.size := ⟨_, rfl⟩
  rw [← hq] at h2 ⊢
  clear hV hq
  go_wp2_with (first | refine wpList_load_row rfl 27 _ rfl w.heap.size rfl 27 (mac a b c rf pl) (0, 0) _ h2.mg.row Try.underlying27 rfl (by rw [mac_size]; exact v_info_mac) ?_)
  refine (H2.out _ h2.mg.below).mono ?_
  rintro e W3 ⟨rfl, hb⟩
  have h3 := h2.step hb
  have c0 := h3.f.cell (i := 0) rfl
  have c1 := h3.f.cell (i := 1) rfl
  have f0 := h3.f.frozen 0
  have f1 := h3.f.frozen 1
  clear hb h2 H2
  go_upto_region 9 with fail
  have h4 := h3.set (.int .i64 0) (.int .i64 0)
  generalize (W3.setCell ⟨q, 0, none⟩ (.int .i64 0)).setCell ⟨q, 1, none⟩ (.int .i64 0) = V4 at *
  clear c0 c1 f0 f1 h3
  have h5 := h4.step (below_bytes V4 (Nat.le_refl _) 5 S)
  go_wp2_with fail
  generalize Lib.bytesWorld V4 5 S = V5 at *
  clear hcv h4
  go_loopw [44] (fun i W => ∃ k : Nat, k ≤ t.size ∧ i = .int .i64 (k : Nat) ∧ Below w.heap.size w W) (fun i _ => ((t.size : Int) - intOf i).toNat)
  case atStart => exact ⟨0, by omega, rfl, h5.mg.below⟩
  case round =>
    clear h5
    obtain ⟨k, hk, rfl, hbe⟩ := hrel
    by_cases hlt : k < t.size
    · have hkS : k < S.size := by rw [HSZ.out]; exact hlt
      have hlt3 : (k : Int) < (S.size : Int) := by omega
      have hix1 := (getD_byte S k hkS).symm
      have hix2 := (getD_byte t k hlt).symm
      have hne := HNE.out k hlt
      generalize S.data.toList.getD k 0 = x at *
      generalize t.data.toList.getD k 0 = y at *
      have hne2 : ((x.toNat : Int) == (y.toNat : Int)) = false := beq_false_of_ne (fun e => hne (UInt8.toNat_inj.1 (by omega)))
      have HLT : Hid (k < t.size) := hlt
      clear hne
      go_upto_region 12 with fail
      go_quiet (fail)
      go_wp2
      go_roundw
      case rel => exact ⟨k + 1, HLT.out, by go_num, hbe.trans ⟨rfl, rfl, rfl, Nat.le_refl _, fun _ _ => rfl⟩⟩
      case measure => have := HLT.out; simp [intOf]; omega
    · have hlt3 : ¬ (k : Int) < (S.size : Int) := by rw [HSZ.out]; omega
      go_wp2
      go_ret
      exact ⟨rfl, hbe⟩
theorem rotorundone_of (TW : ∀ (vm : Value) (g : Gm) (t : ByteArray) (w : World), MacAt w vm g → Calls Try.prog 7 #[vm, .string t] w fun e w' => e = .returned (.tuple #[.string ⟨(rwS g t.data.toList).toArray⟩, .agg #[.int .i64 (rwE g t.data.toList), .int .i64 (rwAt g t.data.toList)]]) ∧ Below w.heap.size w w')
    (HA : ∀ W, Calls Try.prog 6 #[] W fun e w' => e = .returned (.bool true) ∧ Below W.heap.size W w') (vm : Value) (g : Gm) (t : ByteArray) (w : World) (hm : MacAt w vm g) : Calls Try.prog 3 #[vm, .string t] w fun e w' => e = .returned (.bool true) ∧ Below w.heap.size w w' := by
  by_cases h0 : rwE g t.data.toList = 0
  · obtain ⟨hg, hc⟩ := rwE_zero h0
    rcases ck_cases t.data.toList with ⟨_, k1, k2, k3⟩ | k1
    · obtain ⟨hM, _⟩ := ok_maOf hg
      have hl := ls_of k3
      have hS := rwS_ok h0
      have hlS : Ls (rwS g t.data.toList) := by rw [hS]; exact Om.wr_ls hM _ hl
      have hlen : (rwS g t.data.toList).length = t.data.toList.length := by rw [hS, Om.wr_length]
      have hcS := ck_of_ls hlS (by rw [hlen]; exact k2)
      have e0 : rwE g (rwS g t.data.toList) = 0 := by unfold rwE; rw [if_neg (fun h => h hg)]; exact hcS.1
      have a0 : ∀ l, ckAt l = 0 → rwAt g l = 0 := fun l h => by unfold rwAt; rw [if_neg (fun h => h hg)]; exact h
      have hSS : rwS g (rwS g t.data.toList) = t.data.toList := by rw [rwS_ok e0, hS, Om.wr_wr hM _ hl]
      have H1 := fun W (hb : Below w.heap.size w W) => TW vm g t W (hm.below hb)
      have H2 := fun W (hb : Below w.heap.size w W) => TW vm g ⟨(rwS g t.data.toList).toArray⟩ W (hm.below hb)
      rw [h0, a0 _ k1] at H1
      have et : (⟨(t.data.toList).toArray⟩ : ByteArray) = t := by cases t; simp
      have H2' : ∀ W, Below w.heap.size w W → Calls Try.prog 7 #[vm, .string ⟨(rwS g t.data.toList).toArray⟩] W fun e w' => e = .returned (.tuple #[.string t, .agg #[.int .i64 0, .int .i64 0]]) ∧ Below W.heap.size W w' := fun W hb => by
        have := H2 W hb
        rw [show (⟨(rwS g t.data.toList).toArray⟩ : ByteArray).data.toList = rwS g t.data.toList from rfl, e0, a0 _ hcS.2, hSS, et] at this
        exact this
      obtain ⟨a, b, c, rfl, _⟩ := hm
      refine rundone_run a b c g.rf g.pl t ⟨(rwS g t.data.toList).toArray⟩ (by rw [Pl.size_len, Pl.size_len]; exact hlen) (by rw [Pl.size_len]; exact k2) (fun i hi => ?_) w HA H1 H2'
      show (rwS g t.data.toList).getD i 0 ≠ _
      rw [hS]
      exact Om.wr_ne hM _ hl i (by rw [← Pl.size_len]; exact hi)
    · rw [hc] at k1; cases k1
  · have H1 := fun W (hb : Below w.heap.size w W) => TW vm g t W (hm.below hb)
    obtain ⟨a, b, c, rfl, _⟩ := hm
    exact rundone_bad a b c g.rf g.pl t _ _ _ (by simpa using h0) w HA H1
end Go.Proofs.Ytpdjfjmfnmocmaf
