/-
  Several texts, joined: RoWn, KThen, OStH.
-/
import Derived.Test.YtigamiehnjipcaaRoBe
import Derived.Test.YtigamiehnjipcaaOPl
import Derived.Test.YtigamiehnjipcaaJn3
import Derived.Deep.QuietTactic
import Derived.BigQuiet
import Derived.Test.YtigamiehnjipcaaPKit
import Derived.OrdersHeld
import Derived.Deep.Upon
import Derived.Deep.RegionHeld
import Derived.Deep.WholeRow
/-
  Contracts of (*Rotor).Now and Window.
-/
namespace Go.Proofs.Ytigamiehnjipcaa
open Go.RowKit PK Vg

set_option maxRecDepth 100000 in
set_option maxHeartbeats 2000000 in
theorem now_any (b : Nat) (M : Om.Ma) (at' : Nat → Nat) (w : World) (h : RotAt w b M at') : Calls Try.prog 28 #[.pointer (some ⟨b, 0, none⟩)] w fun e w' => e = .returned (.agg (ints 26 (Pm.up (Om.now M at')))) ∧ Below w.heap.size w w' := by
  have hz26 := o_zero v_zero_perm
  have h0 := TuAt.new w
  have HR := (show Hid (RotAt w b M at') from h)
  clear h
  go_enter Try.func28, Try.ntmps28
  go_wp2_with fail
  clear hz26
  go_loopw [5] (fun i V => ∃ k : Nat, k ≤ 26 ∧ i = .int .i64 (k : Nat) ∧ TuAt w V fun c => if c < k then ((Om.now M at' c : Nat) : Int) else 0) (fun i _ => ((26 : Int) - intOf i).toNat)
  case atStart => exact ⟨0, by omega, rfl, by simpa using h0⟩
  case round =>
    clear h0
    obtain ⟨k, hk, rfl, hg⟩ := hrel
    by_cases hlt : k < 26
    · have HLT : Hid (k < 26) := hlt
      have HG := (show Hid _ from hg)
      clear hg
      go_wp2_with fail
      refine (becomes_any b M at' k HLT.out _ (HR.out.below HG.out.below)).mono ?_
      rintro e V ⟨rfl, hb⟩
      have hg : TuAt w V fun c => if c < k then ((Om.now M at' c : Nat) : Int) else 0 := ⟨HG.out.r.below hb HG.out.r.lt, HG.out.o.below hb HG.out.o.lt, HG.out.below.trans (hb.mono HG.out.below.size)⟩
      have HNX : Hid (TuAt w (V.setCell ⟨w.heap.size + 1, k, none⟩ (.int .i64 (Om.now M at' k : Nat))) fun c => if c < k + 1 then ((Om.now M at' c : Nat) : Int) else 0) := by
        have := hg.set k (Om.now M at' k : Nat)
        have e : upd (fun c => if c < k then ((Om.now M at' c : Nat) : Int) else 0) k (Om.now M at' k : Nat) = fun c => if c < k + 1 then ((Om.now M at' c : Nat) : Int) else 0 := by
          funext i
          unfold upd
          by_cases e : i = k
          · rw [if_pos e, if_pos (by omega), e]
          · rw [if_neg e]
            show (if i < k then ((Om.now M at' i : Nat) : Int) else 0) = _
            by_cases e2 : i < k
            · rw [if_pos e2, if_pos (by omega)]
            · rw [if_neg e2, if_neg (by omega)]
        rw [e] at this
        exact this
      have hck := hg.o.cell (ints_get (fun c => if c < k then ((Om.now M at' c : Nat) : Int) else 0) hlt)
      have hfk := hg.o.frozen k
      clear hg hb HG
      generalize Om.now M at' k = A at *
      go_wp2
      go_roundw
      case rel => exact ⟨k + 1, HLT.out, by go_num, HNX.out⟩
      case measure => have := HLT.out; simp [intOf]; omega
    · obtain rfl : k = 26 := by omega
      have hr := hg.r
      have ho : RowAt wr (w.heap.size + 1) 25 (ints 26 (Pm.up (Om.now M at'))) := by
        have := hg.o
        rw [ints_ext (g := Pm.up (Om.now M at')) fun i hi => by rw [if_pos hi]; rfl] at this
        exact this
      have hbe := hg.below
      clear hg
      go_wp2_with (first | refine wpList_load_row rfl 25 _ rfl (w.heap.size + 1) rfl 25 (ints 26 (Pm.up (Om.now M at'))) (0, 0) _ ho Try.underlying25 rfl (by rw [ints_size]; exact info_perm) ?_ | refine wpList_store_row rfl 25 _ _ rfl w.heap.size (ints 26 (Pm.up (Om.now M at'))) rfl rfl 25 _ hr (by rw [ints_size]; exact info_perm) (by simp only [ints_size]) (ints_one _ _) ?_)
      exact bodyPost_ret (v := .agg (ints 26 (Pm.up (Om.now M at')))) (o_results1 Try.results28 _ _ _ _ _ _ _ rfl (hr.row _) Try.underlying25 rfl (by rw [ints_size]; exact info_perm)) rfl ⟨rfl, Below.setRow hbe _ (Nat.le_refl _) _⟩
/-- Numbers that the call has made: they lie in a block of their own. -/
theorem v_info_int1 : (Try.prog.info? 3).map (fun i => (i.zero, i.size, i.bytes)) = some (some (.int .i64 0), 1, 8) := by kernel_rfl
theorem ints_made (n : Nat) : madeCells #[.int .i64 0] n = ints n fun _ => 0 := v_made_tab _ _
end Go.Proofs.Ytigamiehnjipcaa

/-
  Contracts of perm.Then and perm.Conjugate.
-/
namespace Go.Proofs.Ytigamiehnjipcaa
open Go.RowKit PK

theorem fill_conj (p q : Nat → Nat) (hq : Pm.IsPerm q) : ints 26 (fill q (Pm.up fun i => q (p i)) 26) = ints 26 (Pm.up (Pm.conj p q)) := fill_perm q hq _
def pair (f g : Nat → Int) : Nat → Nat → Int := fun k => if k = 0 then f else g
theorem pair_ok (p q : Nat → Nat) (hp : Pm.IsPerm p) (hq : Pm.IsPerm q) : Pm.firstBad (pair (Pm.up p) (Pm.up q)) 2 = 0 := by
  have h1 := Pm.firstBad_succ (pair (Pm.up p) (Pm.up q)) 0 rfl
  have h2 : Pm.firstBad (pair (Pm.up p) (Pm.up q)) 1 = 0 := h1.trans (Pm.wrong_up p hp)
  exact (Pm.firstBad_succ _ 1 h2).trans (Pm.wrong_up q hq)
set_option maxHeartbeats 2000000 in
theorem then1_any (p q : Nat → Nat) (i : Nat) (hi : i < 26) (hp : Pm.IsPerm p) (bp bq : Nat) (w : World) (hrp : RowAt w bp 25 (ints 26 (Pm.up p))) (hrq : RowAt w bq 25 (ints 26 (Pm.up q))) :
    Calls Try.prog 55 #[.int .i64 (i : Int), .pointer (some ⟨bq, 0, none⟩), .pointer (some ⟨bp, 0, none⟩)] w fun e w' => e = .returned (.tuple #[.int .i64 (i : Int), .int .i64 (q (p i) : Nat)]) ∧ Below w.heap.size w w' := by
  have hpi := hp.lt i hi
  have hc1 := hrp.cell (ints_get (Pm.up p) hi)
  have hc2 := hrq.cell (ints_get (Pm.up q) hpi)
  simp only [Pm.up] at hc1 hc2
  clear hrp hrq
  generalize p i = n at *
  go_enter Try.func55, Try.ntmps55
  go_wp2
  go_quiet (fail)
  go_wp2
  go_ret2
  exact ⟨rfl, rfl, rfl, rfl, Nat.le_refl _, fun _ _ => rfl⟩
set_option maxHeartbeats 2000000 in
theorem then_ok (p q : Nat → Nat) (hp : Pm.IsPerm p) (hq : Pm.IsPerm q) (w : World) :
    Calls Try.prog 29 #[.agg (ints 26 (Pm.up p)), .agg (ints 26 (Pm.up q))] w fun e w' => e = .returned (.tuple #[.agg (ints 26 (Pm.up (fun i => q (p i)))), .int .i64 0]) ∧ Below w.heap.size w w' := by
  have H0 : Hid (Pm.firstBad (pair (Pm.up p) (Pm.up q)) 2 = 0) := pair_ok p q hp hq
  have hmf : ∀ (fn : Fn) (first cap : Array Value) (w : World), (Instr.makeFunc fn first cap).run Try.prog w = .ok (.func fn first cap) w := fun _ _ _ _ => rfl
  go_enter Try.func29, Try.ntmps29
  go_wp2_with (first
    | refine wpList_load_row rfl 25 _ rfl w.heap.size rfl 25 (ints 26 (Pm.up p)) (0, 0) _ (((RowAt.new w _ _).alloc _).alloc _) Try.underlying25 rfl (by rw [ints_size]; exact info_perm) ?_
    | refine wpList_load_row rfl 25 _ rfl (w.heap.size + 1) rfl 25 (ints 26 (Pm.up q)) (0, 0) _ (by rw [← World.size_alloc w]; exact (RowAt.new _ _ _).alloc _) Try.underlying25 rfl (by rw [ints_size]; exact info_perm) ?_
    | refine wpList_build2 rfl 57 25 _ _ rfl 26 (Pm.up p) (Pm.up q) rfl rfl (by decide) Try.underlying57 zero_perm (by decide) ?_)
  rw [zero26]
  refine (firstWrong_any (pair (Pm.up p) (Pm.up q)) 2 (Nat.le_refl _) _ _ (by simp) (range_two (RowAt.newAt (by simp)))).mono ?_
  rintro e W1 ⟨rfl, hb0⟩
  obtain ⟨r1, r2, r3, hb1, hs1⟩ := after2 hb0
  clear hb0
  rw [H0.out]
  go_wp2_with fail
  refine (taking_any 55 #[.pointer (some ⟨w.heap.size + 1, 0, none⟩), .pointer (some ⟨w.heap.size, 0, none⟩)] (fun i => i) (Pm.up fun i => q (p i)) (fun _ h => h) _ (by intro args W; go_simp) (fun i hi W hW => then1_any p q i hi hp _ _ W (r1.below hW (by omega)) (r2.below hW (by omega)))).mono ?_
  rintro e W2 ⟨rfl, hb2⟩
  rw [fill_id]
  have hs2 := hb2.size
  have hrow := r3.below hb2 (by omega)
  go_wp2_with (refine wpList_store_row rfl 25 _ _ rfl (w.heap.size + 1 + 1) (ints 26 (Pm.up (fun i => q (p i)))) rfl rfl 25 _ hrow (by rw [ints_size]; exact info_perm) (by simp only [ints_size]) (ints_one _ _) ?_)
  exact bodyPost_ret (v := .tuple #[.agg (ints 26 (Pm.up (fun i => q (p i)))), .int .i64 0]) (results_cell_tmp2 rfl _ _ (w.heap.size + 1 + 1) 25 _ (0, 0) _ _ rfl rfl (hrow.row _) Try.underlying25 rfl (by rw [ints_size]; exact info_perm)) rfl ⟨rfl, Below.setRow (hb1.trans (hb2.mono (by omega))) _ (by omega) _⟩
end Go.Proofs.Ytigamiehnjipcaa

/-
  A store of a whole block in a region whose orders are held: one step.
-/
namespace Go.Proofs.Ytigamiehnjipcaa
open Go.RowKit PK

section
variable {P : Program} {md : Region.Mode} {ops : Array Oper} {Q : Exit → Act → World → Prop} {S : World → Prop}
theorem storeH {fuel : Nat} {listed : Array Bool} {a : Act} {w : World} (i : Nat) (o : Oper) (hr : Region.ready md ops listed = [i]) (ho : ops[i]? = some o) (hw : Region.wanted o (yielded ops a.tmps) = true)
    (ty : TypeId) (x y : Operand) (hop : o.op = .store ty x y) (g : Nat) (cells : Array Value) (hx : a.eval x = .pointer (some ⟨g, 0, none⟩)) (hy : a.eval y = .agg cells) (t : TypeId) (old : Array Value) (hg : RowAt w g t old)
    (hi : (P.info? ty).map (·.size) = some cells.size) (hs : old.size = cells.size) (h1 : cells.all (·.oneCell') = true) (hdst : o.dst = none)
    (hS : S (w.setRow g cells)) (h : S (w.setRow g cells) → wpAnyH P md ops Q S fuel (listed.setIfInBounds i true) a (w.setRow g cells)) : wpAnyH P md ops Q S (fuel + 1) listed a w := by
  refine wpAnyH_ready hr (by simp) (AllReadyH.cons ho (fun K hK => ?_) AllReadyH.nil)
  rw [if_pos hw]
  refine wp_store_row ty x y hop g cells hx hy t old hg hi hs h1 ?_
  have hp : a.put o.dst undef = a := by rw [hdst]; rfl
  rw [hp]
  exact hK.out _ _ hS h
end
end Go.Proofs.Ytigamiehnjipcaa
