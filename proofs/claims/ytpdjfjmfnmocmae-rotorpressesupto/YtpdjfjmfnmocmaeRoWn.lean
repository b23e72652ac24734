/-
  Contracts of (*Rotor).Now and Window.
-/
import Derived.Test.YtpdjfjmfnmocmaeRoBe
import Derived.Test.YtpdjfjmfnmocmaeOPl
namespace Go.Proofs.Ytpdjfjmfnmocmae
open Go.RowKit PK Vg

set_option maxRecDepth 100000 in
set_option maxHeartbeats 2000000 in
theorem now_any (b : Nat) (M : Om.Ma) (at' : Nat → Nat) (w : World) (h : RotAt w b M at') : Calls Try.prog 60 #[.pointer (some ⟨b, 0, none⟩)] w fun e w' => e = .returned (.agg (ints 26 (Pm.up (Om.now M at')))) ∧ Below w.heap.size w w' := by
  have hz26 := o_zero v_zero_perm
  have h0 := TuAt.new w
  have HR := (show Hid (RotAt w b M at') from h)
  clear h
  go_enter Try.func60, Try.ntmps60
  go_wp2_with fail
  clear hz26
  go_loopw [5] (fun i V => ∃ k : Nat, k ≤ 26 ∧ i = .int .i64 (k : Nat) ∧ TuAt w V fun c => if c < k then ((Om.now M at' c : Nat) : Int) else 0) (fun i _ => ((26 : Int) - intOf i).toNat)
  case atStart => exact ⟨0, by omega, rfl, by simpa using h0⟩
  case round =>
    clear h0
    obtain ⟨k, hk, rfl, hg⟩ := hrel
    by_cases hlt : k < 26
    · have HLT : Hid (k < 26) := hlt
      have HG := (show Hid _ from hg)
      clear hg
      go_wp2_with fail
      refine (becomes_any b M at' k HLT.out _ (HR.out.below HG.out.below)).mono ?_
      rintro e V ⟨rfl, hb⟩
      have hg : TuAt w V fun c => if c < k then ((Om.now M at' c : Nat) : Int) else 0 := ⟨HG.out.r.below hb HG.out.r.lt, HG.out.o.below hb HG.out.o.lt, HG.out.below.trans (hb.mono HG.out.below.size)⟩
      have HNX : Hid (TuAt w (V.setCell ⟨w.heap.size + 1, k, none⟩ (.int .i64 (Om.now M at' k : Nat))) fun c => if c < k + 1 then ((Om.now M at' c : Nat) : Int) else 0) := by
        have := hg.set k (Om.now M at' k : Nat)
        have e : upd (fun c => if c < k then ((Om.now M at' c : Nat) : Int) else 0) k (Om.now M at' k : Nat) = fun c => if c < k + 1 then ((Om.now M at' c : Nat) : Int) else 0 := by
          funext i
          unfold upd
          by_cases e : i = k
          · rw [if_pos e, if_pos (by omega), e]
          · rw [if_neg e]
            show (if i < k then ((Om.now M at' i : Nat) : Int) else 0) = _
            by_cases e2 : i < k
            · rw [if_pos e2, if_pos (by omega)]
            · rw [if_neg e2, if_neg (by omega)]
        rw [e] at this
        exact this
      have hck := hg.o.cell (ints_get (fun c => if c < k then ((Om.now M at' c : Nat) : Int) else 0) hlt)
      have hfk := hg.o.frozen k
      clear hg hb HG
      generalize Om.now M at' k = A at *
      go_wp2
      go_roundw
      case rel => exact ⟨k + 1, HLT.out, by go_num, HNX.out⟩
      case measure => have := HLT.out; simp [intOf]; omega
    · obtain rfl : k = 26 := by omega
      have hr := hg.r
      have ho : RowAt wr (w.heap.size + 1) 50 (ints 26 (Pm.up (Om.now M at'))) := by
        have := hg.o
        rw [ints_ext (g := Pm.up (Om.now M at')) fun i hi => by rw [if_pos hi]; rfl] at this
        exact this
      have hbe := hg.below
      clear hg
      go_wp2_with (first | refine wpList_load_row rfl 50 _ rfl (w.heap.size + 1) rfl 50 (ints 26 (Pm.up (Om.now M at'))) (0, 0) _ ho Try.underlying50 rfl (by rw [ints_size]; exact info_perm) ?_ | refine wpList_store_row rfl 50 _ _ rfl w.heap.size (ints 26 (Pm.up (Om.now M at'))) rfl rfl 50 _ hr (by rw [ints_size]; exact info_perm) (by simp only [ints_size]) (ints_one _ _) ?_)
      exact bodyPost_ret (v := .agg (ints 26 (Pm.up (Om.now M at')))) (o_results1 Try.results60 _ _ _ _ _ _ _ rfl (hr.row _) Try.underlying50 rfl (by rw [ints_size]; exact info_perm)) rfl ⟨rfl, Below.setRow hbe _ (Nat.le_refl _) _⟩
/-- Numbers that the call has made: they lie in a block of their own. -/
theorem v_info_int1 : (Try.prog.info? 3).map (fun i => (i.zero, i.size, i.bytes)) = some (some (.int .i64 0), 1, 8) := by kernel_rfl
theorem ints_made (n : Nat) : madeCells #[.int .i64 0] n = ints n fun _ => 0 := v_made_tab _ _
set_option maxRecDepth 100000 in
set_option maxHeartbeats 2000000 in
theorem window_any (b : Nat) (M : Om.Ma) (at' : Nat → Nat) (w : World) (h : RotAt w b M at') : Calls Try.prog 59 #[.pointer (some ⟨b, 0, none⟩)] w fun e w' => e = .returned (.slice (some ⟨w.heap.size, 0, none⟩) M.n M.n) ∧ RowAt w' w.heap.size 3 (ints M.n fun i => (at' i : Nat)) ∧ Below w.heap.size w w' := by
  have hmany := h.many
  have hn4 := h.ok.most
  have hbw : b ≠ w.heap.size := by have := h.row.lt; omega
  obtain ⟨i0, hi0, hz0, hz1, hz2⟩ := x_info_parts v_info_int1
  have hmk : ∀ w : World, (Instr.makeSlice 49 (.int .i64 (M.n : Nat)) (.int .i64 (M.n : Nat))).run Try.prog w = .ok (.slice (some ⟨w.heap.size, 0, none⟩) M.n M.n) (w.alloc (.cells (ints M.n fun _ => 0) 3)) := fun w => by
    have := run_make (P := Try.prog) w 49 3 i0 _ Try.underlying49 hi0 hz0 .i64 .i64 (M.n : Nat) (M.n : Nat) (by omega) (Int.le_refl _) (by rw [hz2]; omega) (by omega)
    rw [hz1, Int.toNat_natCast, Nat.mul_one] at this
    rw [this]
    show Result.ok _ (w.alloc (.cells (madeCells #[.int .i64 0] M.n) 3)) = _
    rw [ints_made]
  have h0 : RbAt w (w.alloc (.cells (ints M.n fun _ => 0) 3)) b M at' := (RbAt.new h).alloc _
  have hr0 := RowAt.new w 3 (ints M.n fun _ => 0)
  clear hi0 hz0 hz1 hz2 h
  go_enter Try.func59, Try.ntmps59
  go_wp2_with fail
  clear hmk hmany
  generalize w.alloc (.cells (ints M.n fun _ => 0) 3) = W0 at *
  go_loopw [12] (fun i V => ∃ k : Nat, k ≤ M.n ∧ i = .int .i64 (k : Nat) ∧ RbAt w V b M at' ∧ RowAt V w.heap.size 3 (ints M.n fun i => if i < k then ((at' i : Nat) : Int) else 0)) (fun i _ => ((M.n : Int) - intOf i).toNat)
  case atStart => exact ⟨0, by omega, rfl, h0, by simpa using hr0⟩
  case round =>
    clear h0 hr0
    obtain ⟨k, hk, rfl, hg, hr⟩ := hrel
    by_cases hlt : k < M.n
    · have HLT : Hid (k < M.n) := hlt
      have hwd := hg.rot.window hlt
      have hck := hr.cell (ints_get (fun i => if i < k then ((at' i : Nat) : Int) else 0) hlt)
      have hfk := hr.frozen k
      have HNX : Hid (RbAt w (wr.setCell ⟨w.heap.size, k, none⟩ (.int .i64 (at' k : Nat))) b M at' ∧ RowAt (wr.setCell ⟨w.heap.size, k, none⟩ (.int .i64 (at' k : Nat))) w.heap.size 3 (ints M.n fun i => if i < k + 1 then ((at' i : Nat) : Int) else 0)) := by
        refine ⟨⟨⟨hg.rot.row.setOther _ _ hbw, hg.rot.ok, hg.rot.ins⟩, hg.below.setCell (p := ⟨w.heap.size, k, none⟩) (Nat.le_refl _) _⟩, ?_⟩
        have := hr.set k (.int .i64 (at' k : Nat))
        rw [ints_set] at this
        have e : upd (fun c => if c < k then ((at' c : Nat) : Int) else 0) k (at' k : Nat) = fun c => if c < k + 1 then ((at' c : Nat) : Int) else 0 := by
          funext i
          unfold upd
          by_cases e : i = k
          · rw [if_pos e, if_pos (by omega), e]
          · rw [if_neg e]
            show (if i < k then ((at' i : Nat) : Int) else 0) = _
            by_cases e2 : i < k
            · rw [if_pos e2, if_pos (by omega)]
            · rw [if_neg e2, if_neg (by omega)]
        rw [e] at this
        exact this
      clear hg hr
      generalize at' k = A at *
      go_wp2
      go_roundw
      case rel => exact ⟨k + 1, HLT.out, by go_num, HNX.out.1, HNX.out.2⟩
      case measure => have := HLT.out; simp [intOf]; omega
    · obtain rfl : k = M.n := by omega
      have hnl : ¬ ((M.n : Nat) : Int) < ((M.n : Nat) : Int) := by omega
      have HE := (show Hid (RowAt wr w.heap.size 3 (ints M.n fun i => (at' i : Nat))) from by
        rw [ints_ext (g := fun i => ((at' i : Nat) : Int)) fun i hi => by rw [if_pos hi]] at hr
        exact hr)
      have hbe := hg.below
      clear hg hr
      go_wp2
      go_ret
      exact ⟨rfl, HE.out, hbe⟩
end Go.Proofs.Ytpdjfjmfnmocmae
