/-
  Several texts, joined: RoWn, OStH, OBack.
-/
import Derived.Test.YtibkcgjofcfoaaaRoBe
import Derived.Test.YtibkcgjofcfoaaaOPl
import Derived.Test.YtibkcgjofcfoaaaPKit
import Derived.OrdersHeld
import Derived.Deep.Upon
import Derived.Deep.RegionHeld
import Derived.Deep.WholeRow
import Derived.Test.YtibkcgjofcfoaaaJn5
/-
  Contracts of (*Rotor).Now and Window.
-/
namespace Go.Proofs.Ytibkcgjofcfoaaa
open Go.RowKit PK Vg

set_option maxRecDepth 100000 in
set_option maxHeartbeats 2000000 in
theorem now_any (b : Nat) (M : Om.Ma) (at' : Nat → Nat) (w : World) (h : RotAt w b M at') : Calls Try.prog 32 #[.pointer (some ⟨b, 0, none⟩)] w fun e w' => e = .returned (.agg (ints 26 (Pm.up (Om.now M at')))) ∧ Below w.heap.size w w' := by
  have hz26 := o_zero v_zero_perm
  have h0 := TuAt.new w
  have HR := (show Hid (RotAt w b M at') from h)
  clear h
  go_enter Try.func32, Try.ntmps32
  go_wp2_with fail
  clear hz26
  go_loopw [5] (fun i V => ∃ k : Nat, k ≤ 26 ∧ i = .int .i64 (k : Nat) ∧ TuAt w V fun c => if c < k then ((Om.now M at' c : Nat) : Int) else 0) (fun i _ => ((26 : Int) - intOf i).toNat)
  case atStart => exact ⟨0, by omega, rfl, by simpa using h0⟩
  case round =>
    clear h0
    obtain ⟨k, hk, rfl, hg⟩ := hrel
    by_cases hlt : k < 26
    · have HLT : Hid (k < 26) := hlt
      have HG := (show Hid _ from hg)
      clear hg
      go_wp2_with fail
      refine (becomes_any b M at' k HLT.out _ (HR.out.below HG.out.below)).mono ?_
      rintro e V ⟨rfl, hb⟩
      have hg : TuAt w V fun c => if c < k then ((Om.now M at' c : Nat) : Int) else 0 := ⟨HG.out.r.below hb HG.out.r.lt, HG.out.o.below hb HG.out.o.lt, HG.out.below.trans (hb.mono HG.out.below.size)⟩
      have HNX : Hid (TuAt w (V.setCell ⟨w.heap.size + 1, k, none⟩ (.int .i64 (Om.now M at' k : Nat))) fun c => if c < k + 1 then ((Om.now M at' c : Nat) : Int) else 0) := by
        have := hg.set k (Om.now M at' k : Nat)
        have e : upd (fun c => if c < k then ((Om.now M at' c : Nat) : Int) else 0) k (Om.now M at' k : Nat) = fun c => if c < k + 1 then ((Om.now M at' c : Nat) : Int) else 0 := by
          funext i
          unfold upd
          by_cases e : i = k
          · rw [if_pos e, if_pos (by omega), e]
          · rw [if_neg e]
            show (if i < k then ((Om.now M at' i : Nat) : Int) else 0) = _
            by_cases e2 : i < k
            · rw [if_pos e2, if_pos (by omega)]
            · rw [if_neg e2, if_neg (by omega)]
        rw [e] at this
        exact this
      have hck := hg.o.cell (ints_get (fun c => if c < k then ((Om.now M at' c : Nat) : Int) else 0) hlt)
      have hfk := hg.o.frozen k
      clear hg hb HG
      generalize Om.now M at' k = A at *
      go_wp2
      go_roundw
      case rel => exact ⟨k + 1, HLT.out, by go_num, HNX.out⟩
      case measure => have := HLT.out; simp [intOf]; omega
    · obtain rfl : k = 26 := by omega
      have hr := hg.r
      have ho : RowAt wr (w.heap.size + 1) 25 (ints 26 (Pm.up (Om.now M at'))) := by
        have := hg.o
        rw [ints_ext (g := Pm.up (Om.now M at')) fun i hi => by rw [if_pos hi]; rfl] at this
        exact this
      have hbe := hg.below
      clear hg
      go_wp2_with (first | refine wpList_load_row rfl 25 _ rfl (w.heap.size + 1) rfl 25 (ints 26 (Pm.up (Om.now M at'))) (0, 0) _ ho Try.underlying25 rfl (by rw [ints_size]; exact info_perm) ?_ | refine wpList_store_row rfl 25 _ _ rfl w.heap.size (ints 26 (Pm.up (Om.now M at'))) rfl rfl 25 _ hr (by rw [ints_size]; exact info_perm) (by simp only [ints_size]) (ints_one _ _) ?_)
      exact bodyPost_ret (v := .agg (ints 26 (Pm.up (Om.now M at')))) (o_results1 Try.results32 _ _ _ _ _ _ _ rfl (hr.row _) Try.underlying25 rfl (by rw [ints_size]; exact info_perm)) rfl ⟨rfl, Below.setRow hbe _ (Nat.le_refl _) _⟩
/-- Numbers that the call has made: they lie in a block of their own. -/
theorem v_info_int1 : (Try.prog.info? 3).map (fun i => (i.zero, i.size, i.bytes)) = some (some (.int .i64 0), 1, 8) := by kernel_rfl
theorem ints_made (n : Nat) : madeCells #[.int .i64 0] n = ints n fun _ => 0 := v_made_tab _ _
set_option maxRecDepth 100000 in
set_option maxHeartbeats 2000000 in
theorem window_any (b : Nat) (M : Om.Ma) (at' : Nat → Nat) (w : World) (h : RotAt w b M at') : Calls Try.prog 31 #[.pointer (some ⟨b, 0, none⟩)] w fun e w' => e = .returned (.slice (some ⟨w.heap.size, 0, none⟩) M.n M.n) ∧ RowAt w' w.heap.size 3 (ints M.n fun i => (at' i : Nat)) ∧ Below w.heap.size w w' := by
  have hmany := h.many
  have hn4 := h.ok.most
  have hbw : b ≠ w.heap.size := by have := h.row.lt; omega
  obtain ⟨i0, hi0, hz0, hz1, hz2⟩ := x_info_parts v_info_int1
  have hmk : ∀ w : World, (Instr.makeSlice 23 (.int .i64 (M.n : Nat)) (.int .i64 (M.n : Nat))).run Try.prog w = .ok (.slice (some ⟨w.heap.size, 0, none⟩) M.n M.n) (w.alloc (.cells (ints M.n fun _ => 0) 3)) := fun w => by
    have := run_make (P := Try.prog) w 23 3 i0 _ Try.underlying23 hi0 hz0 .i64 .i64 (M.n : Nat) (M.n : Nat) (by omega) (Int.le_refl _) (by rw [hz2]; omega) (by omega)
    rw [hz1, Int.toNat_natCast, Nat.mul_one] at this
    rw [this]
    show Result.ok _ (w.alloc (.cells (madeCells #[.int .i64 0] M.n) 3)) = _
    rw [ints_made]
  have h0 : RbAt w (w.alloc (.cells (ints M.n fun _ => 0) 3)) b M at' := (RbAt.new h).alloc _
  have hr0 := RowAt.new w 3 (ints M.n fun _ => 0)
  clear hi0 hz0 hz1 hz2 h
  go_enter Try.func31, Try.ntmps31
  go_wp2_with fail
  clear hmk hmany
  generalize w.alloc (.cells (ints M.n fun _ => 0) 3) = W0 at *
  go_loopw [12] (fun i V => ∃ k : Nat, k ≤ M.n ∧ i = .int .i64 (k : Nat) ∧ RbAt w V b M at' ∧ RowAt V w.heap.size 3 (ints M.n fun i => if i < k then ((at' i : Nat) : Int) else 0)) (fun i _ => ((M.n : Int) - intOf i).toNat)
  case atStart => exact ⟨0, by omega, rfl, h0, by simpa using hr0⟩
  case round =>
    clear h0 hr0
    obtain ⟨k, hk, rfl, hg, hr⟩ := hrel
    by_cases hlt : k < M.n
    · have HLT : Hid (k < M.n) := hlt
      have hwd := hg.rot.window hlt
      have hck := hr.cell (ints_get (fun i => if i < k then ((at' i : Nat) : Int) else 0) hlt)
      have hfk := hr.frozen k
      have HNX : Hid (RbAt w (wr.setCell ⟨w.heap.size, k, none⟩ (.int .i64 (at' k : Nat))) b M at' ∧ RowAt (wr.setCell ⟨w.heap.size, k, none⟩ (.int .i64 (at' k : Nat))) w.heap.size 3 (ints M.n fun i => if i < k + 1 then ((at' i : Nat) : Int) else 0)) := by
        refine ⟨⟨⟨hg.rot.row.setOther _ _ hbw, hg.rot.ok, hg.rot.ins⟩, hg.below.setCell (p := ⟨w.heap.size, k, none⟩) (Nat.le_refl _) _⟩, ?_⟩
        have := hr.set k (.int .i64 (at' k : Nat))
        rw [ints_set] at this
        have e : upd (fun c => if c < k then ((at' c : Nat) : Int) else 0) k (at' k : Nat) = fun c => if c < k + 1 then ((at' c : Nat) : Int) else 0 := by
          funext i
          unfold upd
          by_cases e : i = k
          · rw [if_pos e, if_pos (by omega), e]
          · rw [if_neg e]
            show (if i < k then ((at' i : Nat) : Int) else 0) = _
            by_cases e2 : i < k
            · rw [if_pos e2, if_pos (by omega)]
            · rw [if_neg e2, if_neg (by omega)]
        rw [e] at this
        exact this
      clear hg hr
      generalize at' k = A at *
      go_wp2
      go_roundw
      case rel => exact ⟨k + 1, HLT.out, by go_num, HNX.out.1, HNX.out.2⟩
      case measure => have := HLT.out; simp [intOf]; omega
    · obtain rfl : k = M.n := by omega
      have hnl : ¬ ((M.n : Nat) : Int) < ((M.n : Nat) : Int) := by omega
      have HE := (show Hid (RowAt wr w.heap.size 3 (ints M.n fun i => (at' i : Nat))) from by
        rw [ints_ext (g := fun i => ((at' i : Nat) : Int)) fun i hi => by rw [if_pos hi]] at hr
        exact hr)
      have hbe := hg.below
      clear hg hr
      go_wp2
      go_ret
      exact ⟨rfl, HE.out, hbe⟩
end Go.Proofs.Ytibkcgjofcfoaaa

/-
  A store of a whole block in a region whose orders are held: one step.
-/
namespace Go.Proofs.Ytibkcgjofcfoaaa
open Go.RowKit PK

section
variable {P : Program} {md : Region.Mode} {ops : Array Oper} {Q : Exit → Act → World → Prop} {S : World → Prop}
theorem storeH {fuel : Nat} {listed : Array Bool} {a : Act} {w : World} (i : Nat) (o : Oper) (hr : Region.ready md ops listed = [i]) (ho : ops[i]? = some o) (hw : Region.wanted o (yielded ops a.tmps) = true)
    (ty : TypeId) (x y : Operand) (hop : o.op = .store ty x y) (g : Nat) (cells : Array Value) (hx : a.eval x = .pointer (some ⟨g, 0, none⟩)) (hy : a.eval y = .agg cells) (t : TypeId) (old : Array Value) (hg : RowAt w g t old)
    (hi : (P.info? ty).map (·.size) = some cells.size) (hs : old.size = cells.size) (h1 : cells.all (·.oneCell') = true) (hdst : o.dst = none)
    (hS : S (w.setRow g cells)) (h : S (w.setRow g cells) → wpAnyH P md ops Q S fuel (listed.setIfInBounds i true) a (w.setRow g cells)) : wpAnyH P md ops Q S (fuel + 1) listed a w := by
  refine wpAnyH_ready hr (by simp) (AllReadyH.cons ho (fun K hK => ?_) AllReadyH.nil)
  rw [if_pos hw]
  refine wp_store_row ty x y hop g cells hx hy t old hg hi hs h1 ?_
  have hp : a.put o.dst undef = a := by rw [hdst]; rfl
  rw [hp]
  exact hK.out _ _ hS h
end
end Go.Proofs.Ytibkcgjofcfoaaa

/-
  Contract of perm.Back.
-/
namespace Go.Proofs.Ytibkcgjofcfoaaa
open Go.RowKit PK

theorem firstWrong_any (fs : Nat → Nat → Int) (n : Nat) (hn : n ≤ 2) (b : Nat) (w : World) (hbw : b < w.heap.size) (hr : ∀ k, k < n → w.rangeAt b (k * 26) (ints 26 (fs k)).toList) :
    Calls Try.prog 49 #[.slice (some ⟨b, 0, none⟩) n n] w fun e w' => e = .returned (.int .i64 (Pm.firstBad fs n)) ∧ Below w.heap.size w w' := by
  have HR : Hid (∀ k, k < n → w.rangeAt b (k * 26) (ints 26 (fs k)).toList) := hr
  clear hr
  go_enter Try.func49, Try.ntmps49
  go_wp2
  go_loopw [8] (fun i W => ∃ k : Nat, k ≤ n ∧ i = .int .i64 k ∧ Hid (Pm.firstBad fs k = 0) ∧ Below w.heap.size w W) (fun i _ => (n - intOf i).toNat)
  case atStart => exact ⟨0, by omega, rfl, rfl, Below.refl _ _⟩
  case round =>
    obtain ⟨k, hk, rfl, HN, hb⟩ := hrel
    have hsz := hb.size
    by_cases hlt : k < n
    · have HC : Hid (wr.rangeAt b (k * 26) (ints 26 (fs k)).toList) := Below.rangeAt hb (HR.out k hlt) hbw
      have hX : Pm.wrong (fs k) = 0 ∨ (Pm.wrong (fs k) != 0) = true := by by_cases e : Pm.wrong (fs k) = 0 <;> simp [e]
      obtain ⟨x, hx⟩ : ∃ x, x = Pm.wrong (fs k) := ⟨_, rfl⟩
      rw [← hx] at hX
      have HX : Hid (x = Pm.wrong (fs k)) := hx
      clear hx
      have hcall : ∀ W : World, Calls Try.prog 71 #[.agg (ints 26 (fs k))] W fun e w' => e = .returned (.int .i64 x) ∧ Below W.heap.size W w' := fun W => by rw [HX.out]; exact wrong_any (fs k) W
      have HL : Hid (∀ W : World, Calls Try.prog 71 #[.agg (ints 26 (fs k))] W fun e w' => e = .returned (.int .i64 x) ∧ Below W.heap.size W w') := hcall
      clear hcall
      rcases hX with rfl | hX
      · go_wp2_with (first
          | refine wpList_load_mid rfl 25 _ rfl b (k * 26) rfl (ints 26 (fs k)).toList _ HC.out Try.underlying25 rfl (by rw [Array.length_toList, ints_size]; exact info_perm) ?_
          | (refine wpList_store_row rfl 25 _ _ rfl wr.heap.size (ints 26 (fs k)) rfl rfl 25 _ (RowAt.new wr _ _) (by rw [ints_size]; exact info_perm) (by rw [ints_size]; rfl) (ints_one _ _) ?_; rw [World.setRow_alloc_new])
          | refine wpList_load_row rfl 25 _ rfl wr.heap.size rfl 25 (ints 26 (fs k)) (0, 0) _ (RowAt.new wr _ _) Try.underlying25 rfl (by rw [ints_size]; exact info_perm) ?_
          | (go_at_call 71; refine (HL.out _).mono ?_; rintro e w1 ⟨rfl, hb1⟩))
        go_roundw
        case rel => exact ⟨k + 1, by omega, by go_num, by rw [Hid, Pm.firstBad_succ fs k HN.out]; exact HX.out.symm, (hb.alloc hsz _).trans (hb1.mono (by simp; omega))⟩
        case measure => simp [intOf]; omega
      · go_wp2_with (first
          | refine wpList_load_mid rfl 25 _ rfl b (k * 26) rfl (ints 26 (fs k)).toList _ HC.out Try.underlying25 rfl (by rw [Array.length_toList, ints_size]; exact info_perm) ?_
          | (refine wpList_store_row rfl 25 _ _ rfl wr.heap.size (ints 26 (fs k)) rfl rfl 25 _ (RowAt.new wr _ _) (by rw [ints_size]; exact info_perm) (by rw [ints_size]; rfl) (ints_one _ _) ?_; rw [World.setRow_alloc_new])
          | refine wpList_load_row rfl 25 _ rfl wr.heap.size rfl 25 (ints 26 (fs k)) (0, 0) _ (RowAt.new wr _ _) Try.underlying25 rfl (by rw [ints_size]; exact info_perm) ?_
          | (go_at_call 71; refine (HL.out _).mono ?_; rintro e w1 ⟨rfl, hb1⟩))
        go_ret
        exact ⟨ret_int (HX.out.trans (Pm.firstBad_stop fs k n HN.out (by rw [← HX.out]; simpa using hX) hlt).symm), (hb.alloc hsz _).trans (hb1.mono (by simp; omega))⟩
    · have HK : Hid (k = n) := by rw [Hid]; omega
      go_wp2
      go_ret
      exact ⟨ret_int (by rw [← HK.out]; exact HN.out.symm), hb⟩
theorem zero_perm : (Try.prog.info? 25).map (fun i => (i.zero, i.size)) = some (some (.agg (ints 26 fun _ => 0)), 26) := by kernel_rfl
theorem fill_perm (p : Nat → Nat) (hp : Pm.IsPerm p) (v : Nat → Int) : ints 26 (fill p v 26) = ints 26 fun j => v (Pm.inv p j) := ints_ext fun j hj => by
  have h := hp.inv_spec j hj
  have := fill_at p v hp.inj 26 (Nat.le_refl _) (Pm.inv p j) h.1
  rw [h.2] at this
  exact this
theorem fill_back (p : Nat → Nat) (hp : Pm.IsPerm p) : ints 26 (fill p (Pm.up fun i => i) 26) = ints 26 (Pm.up (Pm.inv p)) := fill_perm p hp _
theorem one_ok (p : Nat → Nat) (hp : Pm.IsPerm p) : Pm.firstBad (fun _ => Pm.up p) 1 = 0 := (Pm.firstBad_succ (fun _ => Pm.up p) 0 rfl).trans (Pm.wrong_up p hp)
theorem back1_any (p : Nat → Nat) (i : Nat) (hi : i < 26) (bp : Nat) (w : World) (hrp : RowAt w bp 25 (ints 26 (Pm.up p))) :
    Calls Try.prog 76 #[.int .i64 (i : Int), .pointer (some ⟨bp, 0, none⟩)] w fun e w' => e = .returned (.tuple #[.int .i64 (p i : Nat), .int .i64 (i : Int)]) ∧ Below w.heap.size w w' := by
  have hc1 := hrp.cell (ints_get (Pm.up p) hi)
  simp only [Pm.up] at hc1
  clear hrp
  go_enter Try.func76, Try.ntmps76
  go_wp2
  go_ret2
  exact ⟨rfl, rfl, rfl, rfl, Nat.le_refl _, fun _ _ => rfl⟩
theorem back_ok (p : Nat → Nat) (hp : Pm.IsPerm p) (w : World) :
    Calls Try.prog 72 #[.agg (ints 26 (Pm.up p))] w fun e w' => e = .returned (.tuple #[.agg (ints 26 (Pm.up (Pm.inv p))), .int .i64 0]) ∧ Below w.heap.size w w' := by
  have H0 : Hid (Pm.firstBad (fun _ => Pm.up p) 1 = 0) := one_ok p hp
  have hmf : ∀ (fn : Fn) (first cap : Array Value) (w : World), (Instr.makeFunc fn first cap).run Try.prog w = .ok (.func fn first cap) w := fun _ _ _ _ => rfl
  go_enter Try.func72, Try.ntmps72
  go_wp2_with (first
    | refine wpList_load_row rfl 25 _ rfl w.heap.size rfl 25 (ints 26 (Pm.up p)) (0, 0) _ ((RowAt.new w _ _).alloc _) Try.underlying25 rfl (by rw [ints_size]; exact info_perm) ?_
    | refine wpList_build1 rfl 76 25 _ rfl 26 (Pm.up p) rfl (by decide) Try.underlying76 zero_perm (by decide) ?_)
  rw [zero26]
  refine (firstWrong_any (fun _ => Pm.up p) 1 (by decide) _ _ (by simp) (range_one (RowAt.newAt (by simp)))).mono ?_
  rintro e W1 ⟨rfl, hb0⟩
  obtain ⟨r1, r3, hb1, hs1⟩ := after1 hb0
  clear hb0
  rw [H0.out]
  go_wp2_with fail
  refine (taking_any 76 #[.pointer (some ⟨w.heap.size, 0, none⟩)] p (Pm.up fun i => i) hp.lt _ (by intro args W; go_simp) (fun i hi W hW => back1_any p i hi _ W (r1.below hW (by omega)))).mono ?_
  rintro e W2 ⟨rfl, hb2⟩
  rw [fill_back p hp]
  have hs2 := hb2.size
  have hrow := r3.below hb2 (by omega)
  go_wp2_with (refine wpList_store_row rfl 25 _ _ rfl (w.heap.size + 1) (ints 26 (Pm.up (Pm.inv p))) rfl rfl 25 _ hrow (by rw [ints_size]; exact info_perm) (by simp only [ints_size]) (ints_one _ _) ?_)
  exact bodyPost_ret (v := .tuple #[.agg (ints 26 (Pm.up (Pm.inv p))), .int .i64 0]) (results_cell_tmp2 rfl _ _ (w.heap.size + 1) 25 _ (0, 0) _ _ rfl rfl (hrow.row _) Try.underlying25 rfl (by rw [ints_size]; exact info_perm)) rfl ⟨rfl, Below.setRow (hb1.trans (hb2.mono (by omega))) _ (by omega) _⟩
end Go.Proofs.Ytibkcgjofcfoaaa
