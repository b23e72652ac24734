/-
  Several texts, joined: VForB, VAt.
-/
import Derived.Test.YtkohhdkkbaifoaaGreatDoorJn7
import Derived.Deep.RegionHeld3
import Derived.OrdersHeld
/-
  Contract of tableau.tableFor where key or text are wrong.
-/
namespace Go.Proofs.YtkohhdkkbaifoaaGreatDoor
open Go.RowKit PK Vg

theorem two_oneV (a b : Int) : (#[.int .i64 a, .int .i64 b] : Array Value).all (·.oneCell') = true := by
  rw [Array.all_eq_true_iff_forall_mem]
  intro v hv
  simp at hv
  rcases hv with rfl | rfl <;> rfl
section
variable {P : Program} {ops : Array Oper} {Q : Exit → Act → World → Prop} {md : Region.Mode} {S : World → Prop}
/-- An operation that yields its value in every world that meets S is taken first. -/
theorem vtakeV (i d : Nat) (v : Value) {oi : Oper} {fuel : Nat} {listed : Array Bool} {tm : Array Value} {df : List Deferred} {w : World} (hi : ops[i]? = some oi) (hd : oi.dst = some d)
    (hs : Region.noSelect ops = true) (hf : Region.free md ops listed i = true) (hr : (Region.ready md ops listed).contains i = true)
    (hQ : ∀ c a a' w, Q (.panic c) a' w → Q (.panic c) a w) (hw : Region.wanted oi (yielded ops tm) = true) (hrun : ∀ W, S W → (execOp (Act.eval ⟨tm, df⟩) oi).run P W = .ok (.value v) W) (hS : S w)
    (h : wpAnyH P md ops Q S fuel (listed.setIfInBounds i true) ⟨tm.setIfInBounds d v, df⟩ w) : wpAnyH P md ops Q S (fuel + 1) listed ⟨tm, df⟩ w := by
  refine wpAnyH_take (i := i) (oi := oi) (v := v) hi hs hf hr (fun c a w => hQ c a _ w) (Or.inl ⟨hw, fun W hW => hrun W hW⟩) hS ?_
  rw [hd]
  exact h
end
set_option maxRecDepth 100000 in
set_option maxHeartbeats 1000000 in
theorem tfor_key (k : Nat) (h : 1 ≤ k ∧ k ≤ 4) (key t : ByteArray) (hk : (ckE key.data.toList != 0) = true) (w : World) : Calls Tryz.prog 118 #[.int .i64 k, .string key, .string t] w fun e w' => e = .returned (.tuple #[.agg tbl0, .agg #[.int .i64 (ckE key.data.toList), .int .i64 (ckAt key.data.toList)]]) ∧ Below w.heap.size w w' := by
  have HT := (show Hid (∀ W, Calls Tryz.prog 166 #[.int .i64 k] W fun e w' => e = .returned (.tuple #[.agg #[.func (.func (fn0 k)) #[] #[], .func (.func (fn1 k)) #[] #[], .func (.func (fn2 k)) #[] #[], .bool (decide (k = 4))], .bool true]) ∧ Below W.heap.size W w') from fun W => tableOf_ok k h W)
  have HC := (show Hid (∀ W, Calls Tryz.prog 38 #[.string key] W fun e w' => e = .returned (.agg #[.int .i64 (ckE key.data.toList), .int .i64 (ckAt key.data.toList)]) ∧ Below W.heap.size W w') from fun W => check_all key W)
  generalize ckE key.data.toList = E at *
  generalize ckAt key.data.toList = A at *
  generalize fn0 k = F0 at *
  generalize fn1 k = F1 at *
  generalize fn2 k = F2 at *
  generalize decide (k = 4) = B at *
  clear h
  go_enter Tryz.func118, Tryz.ntmps118
  go_wp2_with fail
  refine (HT.out _).mono ?_
  rintro e W1 ⟨rfl, hb1⟩
  simp only [World.size_alloc] at hb1
  have hb2 := hb1.alloc (by have := six_size hb1; omega) (.cells #[.func (.func F0) #[] #[], .func (.func F1) #[] #[], .func (.func F2) #[] #[], .bool B] 147)
  clear hb1
  go_wp2_with fail
  refine (HC.out _).mono ?_
  rintro e W2 ⟨rfl, hb3⟩
  have hb4 := hb2.trans (hb3.mono (by have := six_size hb2; omega))
  clear hb3 hb2
  have hb5 := hb4.alloc (by have := six_size hb4; omega) (.cells #[.int .i64 E, .int .i64 A] 35)
  have hb := (six_first w _ _).trans (hb5.mono (by omega))
  have RR := (show Hid (_ ∧ _) from six_rows hb5)
  have hz := six_size hb4
  have n0 : ¬ W2.heap.size = w.heap.size := by omega
  have n1 : ¬ w.heap.size = W2.heap.size := by omega
  have n2 : ¬ W2.heap.size = w.heap.size + 1 := by omega
  have n3 : ¬ w.heap.size + 1 = W2.heap.size := by omega
  clear hb4 hb5 HC HT hz
  go_wp2_with fail
  refine wp_region_noPanic ?_
  refine wp_region_held_drew (S := fun W => RowAt W w.heap.size 147 #[.nilFunc, .nilFunc, .nilFunc, .bool false] ∧ (∃ c0 c1, RowAt W (w.heap.size + 1) 35 #[c0, c1]) ∧ RowAt W W2.heap.size 35 #[.int .i64 E, .int .i64 A] ∧ Below w.heap.size w W) (by kernel_rfl) ⟨RR.out.1, ⟨_, _, RR.out.2⟩, RowAt.new W2 _ _, hb.drew⟩ (fun hS => ?_)
  refine vtakeV 0 26 (.agg #[.nilFunc, .nilFunc, .nilFunc, .bool false]) rfl rfl (by kernel_rfl) (by kernel_rfl) (by kernel_rfl) (fun _ _ _ _ h => h) (by rfl) (fun W hW => by clear hS hW; go_simp) hS ?_
  simp only [List.setIfInBounds_toArray, List.set_cons_succ, List.set_cons_zero]
  refine vtakeV 1 27 (.agg #[.int .i64 E, .int .i64 A]) rfl rfl (by kernel_rfl) (by kernel_rfl) (by kernel_rfl) (fun _ _ _ _ h => h) (by rfl) (fun W hW => by have h1 := hW.2.2.1.cell (i := 0) rfl; have h2 := hW.2.2.1.cell (i := 1) rfl; clear hS hW; go_simp) hS ?_
  simp only [List.setIfInBounds_toArray, List.set_cons_succ, List.set_cons_zero]
  refine wpAnyH_ready (rs := [2]) (by kernel_rfl) (by simp) ?_
  refine AllReadyH.cons (o := _) rfl (fun K hK => ?_) AllReadyH.nil
  rw [if_pos (by rfl)]
  refine wp_store_row 147 _ _ rfl w.heap.size #[.nilFunc, .nilFunc, .nilFunc, .bool false] rfl rfl 147 _ hS.1 v_info_tbl rfl tbl0_one ?_
  refine hK.out _ _ ⟨hS.1.row _, ⟨hS.2.1.choose, hS.2.1.choose_spec.choose, hS.2.1.choose_spec.choose_spec.rowOther _ _ (by omega)⟩, hS.2.2.1.rowOther _ _ n0, Below.setRow hS.2.2.2 _ (Nat.le_refl _) _⟩ (fun hS1 => ?_)
  clear hK hS
  have hS := hS1
  clear hS1 K
  obtain ⟨d0, d1, hd⟩ := hS.2.1
  refine wpAnyH_ready (rs := [3]) (by kernel_rfl) (by simp) ?_
  refine AllReadyH.cons (o := _) rfl (fun K hK => ?_) AllReadyH.nil
  rw [if_pos (by rfl)]
  refine wp_store_row 35 _ _ rfl (w.heap.size + 1) #[.int .i64 E, .int .i64 A] rfl rfl 35 _ hd v_info_faultV rfl (two_oneV _ _) ?_
  refine hK.out _ _ ⟨hS.1.rowOther _ _ (by omega), ⟨_, _, hd.row _⟩, hS.2.2.1.rowOther _ _ n2, Below.setRow hS.2.2.2 _ (by omega) _⟩ (fun hS1 => ?_)
  have hr := hd.row #[.int .i64 E, .int .i64 A]
  clear hK hS K
  refine wpAnyH_done (by kernel_rfl) ?_ _
  refine NoPanic.normal ?_
  go_wp2
  refine bodyPost_ret (v := .tuple #[.agg tbl0, .agg #[.int .i64 E, .int .i64 A]]) (results_cells2V Tryz.results118 _ _ _ _ _ _ _ _ _ _ _ _ rfl rfl hS1.1 hr Tryz.underlying147 rfl v_info_tbl Tryz.underlying35 rfl v_info_faultV) rfl ⟨rfl, hS1.2.2.2⟩
set_option maxRecDepth 100000 in
set_option maxHeartbeats 1000000 in
theorem tfor_text (k : Nat) (h : 1 ≤ k ∧ k ≤ 4) (key t : ByteArray) (hk : ckE key.data.toList = 0) (hk2 : ckAt key.data.toList = 0) (hn : 1 ≤ key.size ∧ key.size ≤ 256) (ht : (ckE t.data.toList != 0) = true) (w : World) : Calls Tryz.prog 118 #[.int .i64 k, .string key, .string t] w fun e w' => e = .returned (.tuple #[.agg tbl0, .agg #[.int .i64 (ckE t.data.toList), .int .i64 (ckAt t.data.toList)]]) ∧ Below w.heap.size w w' := by
  have HT := (show Hid (∀ W, Calls Tryz.prog 166 #[.int .i64 k] W fun e w' => e = .returned (.tuple #[.agg #[.func (.func (fn0 k)) #[] #[], .func (.func (fn1 k)) #[] #[], .func (.func (fn2 k)) #[] #[], .bool (decide (k = 4))], .bool true]) ∧ Below W.heap.size W w') from fun W => tableOf_ok k h W)
  have HC := (show Hid (∀ W, Calls Tryz.prog 38 #[.string key] W fun e w' => e = .returned (.agg #[.int .i64 0, .int .i64 0]) ∧ Below W.heap.size W w') from fun W => by have := check_all key W; rw [hk, hk2] at this; exact this)
  have HD := (show Hid (∀ W, Calls Tryz.prog 38 #[.string t] W fun e w' => e = .returned (.agg #[.int .i64 (ckE t.data.toList), .int .i64 (ckAt t.data.toList)]) ∧ Below W.heap.size W w') from fun W => check_all t W)
  generalize ckE t.data.toList = E at *
  generalize ckAt t.data.toList = A at *
  generalize fn0 k = F0 at *
  generalize fn1 k = F1 at *
  generalize fn2 k = F2 at *
  generalize decide (k = 4) = B at *
  clear h hk hk2
  go_enter Tryz.func118, Tryz.ntmps118
  go_wp2_with fail
  refine (HT.out _).mono ?_
  rintro e W1 ⟨rfl, hb1⟩
  simp only [World.size_alloc] at hb1
  have hb2 := hb1.alloc (by have := six_size hb1; omega) (.cells #[.func (.func F0) #[] #[], .func (.func F1) #[] #[], .func (.func F2) #[] #[], .bool B] 147)
  have hz1 := six_size hb1
  have rt := RowAt.new W1 147 #[.func (.func F0) #[] #[], .func (.func F1) #[] #[], .func (.func F2) #[] #[], .bool B]
  clear hb1
  go_wp2_with fail
  refine (HC.out _).mono ?_
  rintro e W2 ⟨rfl, hb3⟩
  have hb4 := hb2.trans (hb3.mono (by have := six_size hb2; omega))
  have rt2 := rt.below hb3 rt.lt
  clear hb3 hb2 rt
  have hb5 := hb4.alloc (by have := six_size hb4; omega) (.cells #[.int .i64 0, .int .i64 0] 35)
  clear hb4
  go_wp2_with fail
  refine (HD.out _).mono ?_
  rintro e W3 ⟨rfl, hb6⟩
  have hb7 := hb5.trans (hb6.mono (by have := six_size hb5; omega))
  clear hb6 hb5
  have hb8 := hb7.alloc (by have := six_size hb7; omega) (.cells #[.int .i64 E, .int .i64 A] 35)
  have hb := (six_first w _ _).trans (hb8.mono (by omega))
  have RR := (show Hid (_ ∧ _) from six_rows hb8)
  have hz := six_size hb7
  have n0 : ¬ W3.heap.size = w.heap.size := by omega
  have n1 : ¬ w.heap.size = W3.heap.size := by omega
  have n2 : ¬ W3.heap.size = w.heap.size + 1 := by omega
  have n3 : ¬ w.heap.size + 1 = W3.heap.size := by omega
  clear hb7 hb8 HC HT HD hz hz1 rt2
  go_wp2_with fail
  refine wp_region_noPanic ?_
  refine wp_region_held_drew (S := fun W => RowAt W w.heap.size 147 #[.nilFunc, .nilFunc, .nilFunc, .bool false] ∧ (∃ c0 c1, RowAt W (w.heap.size + 1) 35 #[c0, c1]) ∧ RowAt W W3.heap.size 35 #[.int .i64 E, .int .i64 A] ∧ Below w.heap.size w W) (by kernel_rfl) ⟨RR.out.1, ⟨_, _, RR.out.2⟩, RowAt.new W3 _ _, hb.drew⟩ (fun hS => ?_)
  refine vtakeV 0 43 (.agg #[.nilFunc, .nilFunc, .nilFunc, .bool false]) rfl rfl (by kernel_rfl) (by kernel_rfl) (by kernel_rfl) (fun _ _ _ _ h => h) (by rfl) (fun W hW => by clear hS hW; go_simp) hS ?_
  simp only [List.setIfInBounds_toArray, List.set_cons_succ, List.set_cons_zero]
  refine vtakeV 1 44 (.agg #[.int .i64 E, .int .i64 A]) rfl rfl (by kernel_rfl) (by kernel_rfl) (by kernel_rfl) (fun _ _ _ _ h => h) (by rfl) (fun W hW => by have h1 := hW.2.2.1.cell (i := 0) rfl; have h2 := hW.2.2.1.cell (i := 1) rfl; clear hS hW; go_simp) hS ?_
  simp only [List.setIfInBounds_toArray, List.set_cons_succ, List.set_cons_zero]
  refine wpAnyH_ready (rs := [2]) (by kernel_rfl) (by simp) ?_
  refine AllReadyH.cons (o := _) rfl (fun K hK => ?_) AllReadyH.nil
  rw [if_pos (by rfl)]
  refine wp_store_row 147 _ _ rfl w.heap.size #[.nilFunc, .nilFunc, .nilFunc, .bool false] rfl rfl 147 _ hS.1 v_info_tbl rfl tbl0_one ?_
  refine hK.out _ _ ⟨hS.1.row _, ⟨hS.2.1.choose, hS.2.1.choose_spec.choose, hS.2.1.choose_spec.choose_spec.rowOther _ _ (by omega)⟩, hS.2.2.1.rowOther _ _ n0, Below.setRow hS.2.2.2 _ (Nat.le_refl _) _⟩ (fun hS1 => ?_)
  clear hK hS
  have hS := hS1
  clear hS1 K
  obtain ⟨d0, d1, hd⟩ := hS.2.1
  refine wpAnyH_ready (rs := [3]) (by kernel_rfl) (by simp) ?_
  refine AllReadyH.cons (o := _) rfl (fun K hK => ?_) AllReadyH.nil
  rw [if_pos (by rfl)]
  refine wp_store_row 35 _ _ rfl (w.heap.size + 1) #[.int .i64 E, .int .i64 A] rfl rfl 35 _ hd v_info_faultV rfl (two_oneV _ _) ?_
  refine hK.out _ _ ⟨hS.1.rowOther _ _ (by omega), ⟨_, _, hd.row _⟩, hS.2.2.1.rowOther _ _ n2, Below.setRow hS.2.2.2 _ (by omega) _⟩ (fun hS1 => ?_)
  have hr := hd.row #[.int .i64 E, .int .i64 A]
  clear hK hS K
  refine wpAnyH_done (by kernel_rfl) ?_ _
  refine NoPanic.normal ?_
  go_wp2
  refine bodyPost_ret (v := .tuple #[.agg tbl0, .agg #[.int .i64 E, .int .i64 A]]) (results_cells2V Tryz.results118 _ _ _ _ _ _ _ _ _ _ _ _ rfl rfl hS1.1 hr Tryz.underlying147 rfl v_info_tbl Tryz.underlying35 rfl v_info_faultV) rfl ⟨rfl, hS1.2.2.2⟩
end Go.Proofs.YtkohhdkkbaifoaaGreatDoor

/-
  Contract of keyAt.
-/
namespace Go.Proofs.YtkohhdkkbaifoaaGreatDoor
open Go.RowKit PK Vg

theorem getD_sizeV {s : ByteArray} {i : Nat} (hi : i < s.size) : i < s.data.toList.length := by have := Pl.size_len s; omega
set_option maxRecDepth 100000 in
set_option maxHeartbeats 1000000 in
theorem keyAt_plain (x0 x1 x2 : Value) (key : ByteArray) (i : Nat) (hi : key.size ≤ i) (h6 : i ≤ 65536) (g n cap : Nat) (hn : i - key.size < n) (c : UInt8) (hc : 65 ≤ c.toNat ∧ c.toNat ≤ 90) (w : World) (hw : w.cell? ⟨g, i - key.size, none⟩ = some (.int .u8 c.toNat)) :
    Calls Tryz.prog 121 #[.agg #[x0, x1, x2, .bool true], .string key, .slice (some ⟨g, 0, none⟩) n cap, .int .i64 i] w fun e w' => e = .returned (.int .i64 (Vg.num c : Nat)) ∧ Below w.heap.size w w' := by
  have HN := (show Hid (∀ W, Calls Tryz.prog 120 #[.int .u8 c.toNat] W fun e w' => e = .returned (.int .i64 (Vg.num c : Nat)) ∧ W = w') from fun W => number_anyV c hc W)
  obtain ⟨j, hj⟩ : ∃ j, i = key.size + j := ⟨i - key.size, by omega⟩
  subst hj
  rw [Nat.add_sub_cancel_left] at hw hn
  have hgl := cell_block hw
  have hn2 : (j : Int) < (n : Int) := by omega
  have hw2 : (w.alloc (.cells #[x0, x1, x2, .bool true] 147)).cell? ⟨g, j, none⟩ = some (.int .u8 c.toNat) := by rw [World.cell?_alloc_lt _ _ _ hgl]; exact hw
  generalize Vg.num c = d at *
  generalize c.toNat = cc at *
  clear hw hc
  go_enter Tryz.func121, Tryz.ntmps121
  go_wp2_with (first | (go_at_call 120; refine (HN.out _).mono ?_; rintro e W1 ⟨rfl, rfl⟩))
  go_ret
  exact ⟨rfl, (Below.refl _ _).alloc (Nat.le_refl _) _⟩
set_option maxRecDepth 100000 in
set_option maxHeartbeats 1000000 in
theorem keyAt_key (x0 x1 x2 : Value) (B : Bool) (v : Value) (key : ByteArray) (i : Nat) (h0 : 0 < key.size) (h6 : i ≤ 65536) (hB : B = false ∨ i < key.size) (hl : Ls key.data.toList) (w : World) :
    Calls Tryz.prog 121 #[.agg #[x0, x1, x2, .bool B], .string key, v, .int .i64 i] w fun e w' => e = .returned (.int .i64 (Vg.num (key.data.toList.getD (i % key.size) 0) : Nat)) ∧ Below w.heap.size w w' := by
  have hm : i % key.size < key.size := Nat.mod_lt _ h0
  have hc := hl.at (getD_sizeV hm)
  have HN := (show Hid (∀ W, Calls Tryz.prog 120 #[.int .u8 (key.data.toList.getD (i % key.size) 0).toNat] W fun e w' => e = .returned (.int .i64 (Vg.num (key.data.toList.getD (i % key.size) 0) : Nat)) ∧ W = w') from fun W => number_anyV _ hc W)
  rw [getD_byte key _ hm] at HN ⊢
  have hjt : ((i % key.size : Nat) : Int) = (i : Int).tmod (key.size : Int) := by rw [Int.tmod_eq_emod_of_nonneg (by omega)]; omega
  clear hc hl
  generalize i % key.size = j at *
  have hjt2 := hjt.symm
  have h00 : ¬ ((key.size : Int) = 0) := by omega
  have h01 : ((key.size : Int) == 0) = false := beq_false_of_ne h00
  have hm2 : (j : Int) < (key.size : Int) := by omega
  have HM : Hid (j < key.size) := hm
  clear hjt
  rcases hB with rfl | hB
  · go_enter Tryz.func121, Tryz.ntmps121
    go_wp2_with (first | (go_at_call 120; refine (HN.out _).mono ?_; rintro e W1 ⟨rfl, rfl⟩))
    go_ret
    exact ⟨rfl, (Below.refl _ _).alloc (Nat.le_refl _) _⟩
  · have hB2 : ¬ ((key.size : Int) ≤ (i : Int)) := by omega
    have hB3 : decide ((key.size : Int) ≤ (i : Int)) = false := by simp; omega
    have hB4 : ¬ (key.size ≤ i) := by omega
    cases B
    · go_enter Tryz.func121, Tryz.ntmps121
      go_wp2_with (first | (go_at_call 120; refine (HN.out _).mono ?_; rintro e W1 ⟨rfl, rfl⟩))
      go_ret
      exact ⟨rfl, (Below.refl _ _).alloc (Nat.le_refl _) _⟩
    · go_enter Tryz.func121, Tryz.ntmps121
      go_wp2_with (first | (go_at_call 120; refine (HN.out _).mono ?_; rintro e W1 ⟨rfl, rfl⟩))
      go_ret
      exact ⟨rfl, (Below.refl _ _).alloc (Nat.le_refl _) _⟩
end Go.Proofs.YtkohhdkkbaifoaaGreatDoor
