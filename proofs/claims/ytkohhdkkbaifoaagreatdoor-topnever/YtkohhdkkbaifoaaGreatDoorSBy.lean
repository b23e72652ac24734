/-
  Contracts of cmp.Compare, of rails.sortedBy's closure and of rails.sortedBy.
-/
import Derived.Test.YtkohhdkkbaifoaaGreatDoorSStab
import Derived.Test.YtkohhdkkbaifoaaGreatDoorJn12
namespace Go.Proofs.YtkohhdkkbaifoaaGreatDoor
open Go.RowKit PK Sm

/-- The first m places hold themselves. -/
def fillN (m : Nat) : Nat → Int := fun i => if i < m then (i : Int) else 0
theorem fillN_zero : fillN 0 = fun _ => 0 := by funext i; unfold fillN; rw [if_neg (by omega)]
theorem fillN_step (m : Nat) : upd (fillN m) m (m : Int) = fillN (m + 1) := by
  funext i
  unfold upd fillN
  by_cases h : i = m
  · rw [if_pos h, if_pos (by omega), h]
  · rw [if_neg h]
    by_cases h2 : i < m
    · rw [if_pos h2, if_pos (by omega)]
    · rw [if_neg h2, if_neg (by omega)]
theorem isNaNI_any (x : Int) (w : World) : Calls Tryz.prog 235 #[.int .i64 x] w fun e w' => e = .returned (.bool false) ∧ w = w' := by
  go_enter Tryz.func235, Tryz.ntmps235
  go_wp2
  go_ret
  exact ⟨rfl, rfl⟩
set_option maxHeartbeats 1000000 in
theorem compareI_any (x y : Int) (w : World) : Calls Tryz.prog 210 #[.int .i64 x, .int .i64 y] w fun e w' => e = .returned (.int .i64 (cmpV x y)) ∧ w' = w := by
  by_cases h1 : x < y
  · rw [cmpV_lt h1]
    go_enter Tryz.func210, Tryz.ntmps210
    go_wp2_with (go_at_call 235; refine (isNaNI_any _ _).mono ?_; rintro e w' ⟨rfl, rfl⟩)
    go_ret
    exact ⟨rfl, rfl⟩
  · by_cases h2 : y < x
    · have HV : Hid (cmpV x y = 1) := by rw [Hid]; unfold cmpV; rw [if_neg h1, if_pos h2]
      go_enter Tryz.func210, Tryz.ntmps210
      go_wp2_with (go_at_call 235; refine (isNaNI_any _ _).mono ?_; rintro e w' ⟨rfl, rfl⟩)
      go_ret
      exact ⟨ret_int HV.out.symm, rfl⟩
    · have HV : Hid (cmpV x y = 0) := by rw [Hid]; unfold cmpV; rw [if_neg h1, if_neg h2]
      go_enter Tryz.func210, Tryz.ntmps210
      go_wp2_with (go_at_call 235; refine (isNaNI_any _ _).mono ?_; rintro e w' ⟨rfl, rfl⟩)
      go_ret
      exact ⟨ret_int HV.out.symm, rfl⟩
/-- In every world in which all that lay in w lies as it did, kf tells the key K of a place below n. -/
def KeyOKI (kf : Nat) (kb : Array Value) (K : Int → Int) (n : Nat) (w : World) : Prop :=
  ∀ W, Below w.heap.size w W → ∀ x : Int, 0 ≤ x → x < n → Calls Tryz.prog kf (#[.int .i64 x] ++ kb) W fun e w' => e = .returned (.int .i64 (K x)) ∧ ∃ q, w' = W.drewN q
theorem below_drewN {B : Nat} {a w : World} (h : Below B a w) (k : Nat) : Below B a (w.drewN k) := ⟨h.os, h.tape, h.output, h.size, h.block⟩
set_option maxRecDepth 100000 in
set_option maxHeartbeats 2000000 in
theorem closureI_any (kf : Nat) (kb : Array Value) (K : Int → Int) (hent : ∀ (args : Array Value) (W : World), (callFunc kf args).run Tryz.prog W = .ok (.enter kf args) W) (n : Nat) (w0 W : World) (hk : KeyOKI kf kb K n w0) (hW : Below w0.heap.size w0 W) (B : Nat) (hB : W.cell? ⟨B, 0, none⟩ = some (.func (.func kf) #[] kb)) (x y : Int) (hx0 : 0 ≤ x) (hx1 : x < n) (hy0 : 0 ≤ y) (hy1 : y < n) :
    Calls Tryz.prog 209 #[.int .i64 x, .int .i64 y, .pointer (some ⟨B, 0, none⟩)] W fun e w' => e = .returned (.int .i64 (cmpV (K x) (K y))) ∧ ∃ q, w' = W.drewN q := by
  have hkey : ∀ z : Int, 0 ≤ z → z < n → ∀ k, Calls Tryz.prog kf (#[.int .i64 z] ++ kb) (W.drewN k) fun e w' => e = .returned (.int .i64 (K z)) ∧ ∃ q, w' = (W.drewN k).drewN q := fun z h0 h1 k => hk _ (below_drewN hW k) z h0 h1
  have hcp : ∀ u v : Int, ∀ k, Calls Tryz.prog 210 #[.int .i64 u, .int .i64 v] (W.drewN k) fun e w' => e = .returned (.int .i64 (cmpV u v)) ∧ w' = W.drewN k := fun u v k => compareI_any u v _
  clear hk
  go_enter Tryz.func209, Tryz.ntmps209
  go_wp2_with fail
  go_quiet (first
    | (go_at_fn kf; refine Calls.quiet_of (hkey _ (by assumption) (by assumption) _))
    | (go_at_call 210; refine Calls.quiet_of_same (hcp _ _ _)))
  go_wp2
  go_ret
  exact ⟨rfl, nq, rfl⟩
set_option maxRecDepth 100000 in
set_option maxHeartbeats 2000000 in
theorem sortedByI_any (kf : Nat) (kb : Array Value) (K : Int → Int) (hent : ∀ (args : Array Value) (W : World), (callFunc kf args).run Tryz.prog W = .ok (.enter kf args) W) (n : Nat) (hn : n ≤ 65536) (w : World) (hk : KeyOKI kf kb K n w) :
    Calls Tryz.prog 169 #[.int .i64 (n : Nat), .func (.func kf) #[] kb] w fun e w' => ∃ d', e = .returned (.slice (some ⟨w.heap.size + 1, 0, none⟩) n n) ∧ RowAt w' (w.heap.size + 1) 3 (ints n d') ∧ Below w.heap.size w w' ∧ Order n d' ∧ Srt K d' 0 n := by
  have hmk := run_make_row' (P := Tryz.prog) 25 3 (.int .i64 0) 8 Tryz.underlying25 y_info_int rfl .i64 .i64 n (by omega) (by omega)
  rw [y_made_tab, ints_new] at hmk
  have hmf : ∀ (fn : Fn) (first cap : Array Value) (w : World), (Instr.makeFunc fn first cap).run Tryz.prog w = .ok (.func fn first cap) w := fun _ _ _ _ => rfl
  have HK := (show Hid (KeyOKI kf kb K n w) from hk)
  clear hk
  go_enter Tryz.func169, Tryz.ntmps169
  go_wp2
  go_loopw [10] (fun i W => ∃ m : Nat, m ≤ n ∧ i = .int .i64 m ∧ RowAt W (w.heap.size + 1) 3 (ints n (fillN m)) ∧ W.cell? ⟨w.heap.size, 0, none⟩ = some (.func (.func kf) #[] kb) ∧ Below w.heap.size w W) (fun i _ => ((n : Int) - intOf i).toNat)
  case atStart =>
    refine ⟨0, by omega, rfl, ?_, ?_, ((Below.refl _ _).alloc (Nat.le_refl _) _).alloc (by simp) _⟩
    · have := RowAt.new (w.alloc (.cells #[.func (.func kf) #[] kb] 142)) 3 (ints n fun _ => 0)
      simpa [fillN_zero] using this
    · simp
  case round =>
    obtain ⟨m, hm, rfl, ro, hcb, hb⟩ := hrel
    by_cases hlt : m < n
    · have hcx := ro.cell (ints_get (fillN m) hlt)
      have hfx := ro.frozen m
      have ro2 : RowAt (wr.setCell ⟨w.heap.size + 1, m, none⟩ (.int .i64 m)) (w.heap.size + 1) 3 (ints n (fillN (m + 1))) := by
        have := ro.set m (.int .i64 m)
        rw [ints_set, fillN_step] at this
        exact this
      have hbb := hb.setCell (p := ⟨w.heap.size + 1, m, none⟩) (by simp) (.int .i64 m)
      have hcb2 : (wr.setCell ⟨w.heap.size + 1, m, none⟩ (.int .i64 m)).cell? ⟨w.heap.size, 0, none⟩ = some (.func (.func kf) #[] kb) := (World.cell?_setCell_other _ _ _ _ (by simp)).trans hcb
      go_wp2
      exact ⟨⟨m + 1, by omega, by go_num, ro2, hcb2, hbb⟩, by simp [intOf]; omega⟩
    · obtain rfl : m = n := by omega
      have hro : RowAt wr (w.heap.size + 1) 3 (ints m fun i => (i : Int)) := by
        rw [ints_ext (f := fun i => (i : Int)) (g := fillN m) (fun i hi => by unfold fillN; rw [if_pos hi])]
        exact ro
      have hcmp : CmpOK 209 #[.pointer (some ⟨w.heap.size, 0, none⟩)] K m wr (w.heap.size + 1) := fun W hW x y hx0 hx1 hy0 hy1 => by
        refine closureI_any kf kb K hent m w W HK.out ?_ w.heap.size ?_ x y hx0 hx1 hy0 hy1
        · exact hb.trans (gb_to_below hW (by have := hb.size; omega) (by omega))
        · have h1 : w.heap.size < wr.heap.size := World.block_lt_of_cell? _ _ hcb
          rw [show W.cell? ⟨w.heap.size, 0, none⟩ = wr.cell? ⟨w.heap.size, 0, none⟩ from by
            have hbl := (gb_to_below (B := w.heap.size + 1) hW (by omega) (by omega))
            exact hbl.cell (p := ⟨w.heap.size, 0, none⟩) (by simp)]
          exact hcb
      have HS := (show Hid (Calls Tryz.prog 208 #[.slice (some ⟨w.heap.size + 1, 0, none⟩) m m, .func (.func 209) #[] #[.pointer (some ⟨w.heap.size, 0, none⟩)]] wr fun e w' => ∃ d', e = .returned (.tuple #[]) ∧ RowAt w' (w.heap.size + 1) 3 (ints m d') ∧ wr.grownBy w' (some (w.heap.size + 1)) ∧ Done K m 0 m (fun i => (i : Int)) d') from sortStable_any _ _ K (by intro args W; go_simp) (w.heap.size + 1) m m hn wr hcmp (fun i => (i : Int)) hro (fun i hi => (order_id m).lt i hi) (stab_id K m))
      clear hcmp
      go_wp2_with fail
      refine Calls.mono HS.out ?_
      rintro e W1 ⟨d', rfl, ro1, hb1, hd⟩
      go_wp2
      go_ret
      exact ⟨d', rfl, ro1, hb.trans (gb_to_below hb1 hb.size (by omega)), hd.mv.order (order_id m), hd.srt⟩
theorem isNaNB_any (x : Int) (w : World) : Calls Tryz.prog 236 #[.int .u8 x] w fun e w' => e = .returned (.bool false) ∧ w = w' := by
  go_enter Tryz.func236, Tryz.ntmps236
  go_wp2
  go_ret
  exact ⟨rfl, rfl⟩
set_option maxHeartbeats 1000000 in
theorem compareB_any (x y : Int) (w : World) : Calls Tryz.prog 212 #[.int .u8 x, .int .u8 y] w fun e w' => e = .returned (.int .i64 (cmpV x y)) ∧ w' = w := by
  by_cases h1 : x < y
  · rw [cmpV_lt h1]
    go_enter Tryz.func212, Tryz.ntmps212
    go_wp2_with (go_at_call 236; refine (isNaNB_any _ _).mono ?_; rintro e w' ⟨rfl, rfl⟩)
    go_ret
    exact ⟨rfl, rfl⟩
  · by_cases h2 : y < x
    · have HV : Hid (cmpV x y = 1) := by rw [Hid]; unfold cmpV; rw [if_neg h1, if_pos h2]
      go_enter Tryz.func212, Tryz.ntmps212
      go_wp2_with (go_at_call 236; refine (isNaNB_any _ _).mono ?_; rintro e w' ⟨rfl, rfl⟩)
      go_ret
      exact ⟨ret_int HV.out.symm, rfl⟩
    · have HV : Hid (cmpV x y = 0) := by rw [Hid]; unfold cmpV; rw [if_neg h1, if_neg h2]
      go_enter Tryz.func212, Tryz.ntmps212
      go_wp2_with (go_at_call 236; refine (isNaNB_any _ _).mono ?_; rintro e w' ⟨rfl, rfl⟩)
      go_ret
      exact ⟨ret_int HV.out.symm, rfl⟩
/-- In every world in which all that lay in w lies as it did, kf tells the key K of a place below n. -/
def KeyOKB (kf : Nat) (kb : Array Value) (K : Int → Int) (n : Nat) (w : World) : Prop :=
  ∀ W, Below w.heap.size w W → ∀ x : Int, 0 ≤ x → x < n → Calls Tryz.prog kf (#[.int .i64 x] ++ kb) W fun e w' => e = .returned (.int .u8 (K x)) ∧ ∃ q, w' = W.drewN q
set_option maxRecDepth 100000 in
set_option maxHeartbeats 2000000 in
theorem closureB_any (kf : Nat) (kb : Array Value) (K : Int → Int) (hent : ∀ (args : Array Value) (W : World), (callFunc kf args).run Tryz.prog W = .ok (.enter kf args) W) (n : Nat) (w0 W : World) (hk : KeyOKB kf kb K n w0) (hW : Below w0.heap.size w0 W) (B : Nat) (hB : W.cell? ⟨B, 0, none⟩ = some (.func (.func kf) #[] kb)) (x y : Int) (hx0 : 0 ≤ x) (hx1 : x < n) (hy0 : 0 ≤ y) (hy1 : y < n) :
    Calls Tryz.prog 211 #[.int .i64 x, .int .i64 y, .pointer (some ⟨B, 0, none⟩)] W fun e w' => e = .returned (.int .i64 (cmpV (K x) (K y))) ∧ ∃ q, w' = W.drewN q := by
  have hkey : ∀ z : Int, 0 ≤ z → z < n → ∀ k, Calls Tryz.prog kf (#[.int .i64 z] ++ kb) (W.drewN k) fun e w' => e = .returned (.int .u8 (K z)) ∧ ∃ q, w' = (W.drewN k).drewN q := fun z h0 h1 k => hk _ (below_drewN hW k) z h0 h1
  have hcp : ∀ u v : Int, ∀ k, Calls Tryz.prog 212 #[.int .u8 u, .int .u8 v] (W.drewN k) fun e w' => e = .returned (.int .i64 (cmpV u v)) ∧ w' = W.drewN k := fun u v k => compareB_any u v _
  clear hk
  go_enter Tryz.func211, Tryz.ntmps211
  go_wp2_with fail
  go_quiet (first
    | (go_at_fn kf; refine Calls.quiet_of (hkey _ (by assumption) (by assumption) _))
    | (go_at_call 212; refine Calls.quiet_of_same (hcp _ _ _)))
  go_wp2
  go_ret
  exact ⟨rfl, nq, rfl⟩
set_option maxRecDepth 100000 in
set_option maxHeartbeats 2000000 in
theorem sortedByB_any (kf : Nat) (kb : Array Value) (K : Int → Int) (hent : ∀ (args : Array Value) (W : World), (callFunc kf args).run Tryz.prog W = .ok (.enter kf args) W) (n : Nat) (hn : n ≤ 65536) (w : World) (hk : KeyOKB kf kb K n w) :
    Calls Tryz.prog 172 #[.int .i64 (n : Nat), .func (.func kf) #[] kb] w fun e w' => ∃ d', e = .returned (.slice (some ⟨w.heap.size + 1, 0, none⟩) n n) ∧ RowAt w' (w.heap.size + 1) 3 (ints n d') ∧ Below w.heap.size w w' ∧ Order n d' ∧ Srt K d' 0 n := by
  have hmk := run_make_row' (P := Tryz.prog) 25 3 (.int .i64 0) 8 Tryz.underlying25 y_info_int rfl .i64 .i64 n (by omega) (by omega)
  rw [y_made_tab, ints_new] at hmk
  have hmf : ∀ (fn : Fn) (first cap : Array Value) (w : World), (Instr.makeFunc fn first cap).run Tryz.prog w = .ok (.func fn first cap) w := fun _ _ _ _ => rfl
  have HK := (show Hid (KeyOKB kf kb K n w) from hk)
  clear hk
  go_enter Tryz.func172, Tryz.ntmps172
  go_wp2
  go_loopw [10] (fun i W => ∃ m : Nat, m ≤ n ∧ i = .int .i64 m ∧ RowAt W (w.heap.size + 1) 3 (ints n (fillN m)) ∧ W.cell? ⟨w.heap.size, 0, none⟩ = some (.func (.func kf) #[] kb) ∧ Below w.heap.size w W) (fun i _ => ((n : Int) - intOf i).toNat)
  case atStart =>
    refine ⟨0, by omega, rfl, ?_, ?_, ((Below.refl _ _).alloc (Nat.le_refl _) _).alloc (by simp) _⟩
    · have := RowAt.new (w.alloc (.cells #[.func (.func kf) #[] kb] 144)) 3 (ints n fun _ => 0)
      simpa [fillN_zero] using this
    · simp
  case round =>
    obtain ⟨m, hm, rfl, ro, hcb, hb⟩ := hrel
    by_cases hlt : m < n
    · have hcx := ro.cell (ints_get (fillN m) hlt)
      have hfx := ro.frozen m
      have ro2 : RowAt (wr.setCell ⟨w.heap.size + 1, m, none⟩ (.int .i64 m)) (w.heap.size + 1) 3 (ints n (fillN (m + 1))) := by
        have := ro.set m (.int .i64 m)
        rw [ints_set, fillN_step] at this
        exact this
      have hbb := hb.setCell (p := ⟨w.heap.size + 1, m, none⟩) (by simp) (.int .i64 m)
      have hcb2 : (wr.setCell ⟨w.heap.size + 1, m, none⟩ (.int .i64 m)).cell? ⟨w.heap.size, 0, none⟩ = some (.func (.func kf) #[] kb) := (World.cell?_setCell_other _ _ _ _ (by simp)).trans hcb
      go_wp2
      exact ⟨⟨m + 1, by omega, by go_num, ro2, hcb2, hbb⟩, by simp [intOf]; omega⟩
    · obtain rfl : m = n := by omega
      have hro : RowAt wr (w.heap.size + 1) 3 (ints m fun i => (i : Int)) := by
        rw [ints_ext (f := fun i => (i : Int)) (g := fillN m) (fun i hi => by unfold fillN; rw [if_pos hi])]
        exact ro
      have hcmp : CmpOK 211 #[.pointer (some ⟨w.heap.size, 0, none⟩)] K m wr (w.heap.size + 1) := fun W hW x y hx0 hx1 hy0 hy1 => by
        refine closureB_any kf kb K hent m w W HK.out ?_ w.heap.size ?_ x y hx0 hx1 hy0 hy1
        · exact hb.trans (gb_to_below hW (by have := hb.size; omega) (by omega))
        · have h1 : w.heap.size < wr.heap.size := World.block_lt_of_cell? _ _ hcb
          rw [show W.cell? ⟨w.heap.size, 0, none⟩ = wr.cell? ⟨w.heap.size, 0, none⟩ from by
            have hbl := (gb_to_below (B := w.heap.size + 1) hW (by omega) (by omega))
            exact hbl.cell (p := ⟨w.heap.size, 0, none⟩) (by simp)]
          exact hcb
      have HS := (show Hid (Calls Tryz.prog 208 #[.slice (some ⟨w.heap.size + 1, 0, none⟩) m m, .func (.func 211) #[] #[.pointer (some ⟨w.heap.size, 0, none⟩)]] wr fun e w' => ∃ d', e = .returned (.tuple #[]) ∧ RowAt w' (w.heap.size + 1) 3 (ints m d') ∧ wr.grownBy w' (some (w.heap.size + 1)) ∧ Done K m 0 m (fun i => (i : Int)) d') from sortStable_any _ _ K (by intro args W; go_simp) (w.heap.size + 1) m m hn wr hcmp (fun i => (i : Int)) hro (fun i hi => (order_id m).lt i hi) (stab_id K m))
      clear hcmp
      go_wp2_with fail
      refine Calls.mono HS.out ?_
      rintro e W1 ⟨d', rfl, ro1, hb1, hd⟩
      go_wp2
      go_ret
      exact ⟨d', rfl, ro1, hb.trans (gb_to_below hb1 hb.size (by omega)), hd.mv.order (order_id m), hd.srt⟩
end Go.Proofs.YtkohhdkkbaifoaaGreatDoor
