/-
  Contracts of tele's shown and onward (chapter 13).
-/
import Derived.Test.YtbcjblakknfhmaaTeS
namespace Go.Proofs.Ytbcjblakknfhmaa
open Go.RowKit PK Tl

/-- Two boxes: wheels and where they are. -/
structure TwAt (w W : World) (Q : Nat → Value) (f : Nat → Int) : Prop where
  wheels : RowAt W w.heap.size 24 (tab 5 Q)
  places : RowAt W (w.heap.size + 1) 25 (ints 5 f)
  below : Below w.heap.size w W
theorem TwAt.new (w : World) (Q : Nat → Value) (f : Nat → Int) : TwAt w ((w.alloc (.cells (tab 5 Q) 24)).alloc (.cells (ints 5 f) 25)) Q f := by
  refine ⟨(RowAt.new w _ _).alloc _, ?_, ((Below.refl _ w).alloc (Nat.le_refl _) _).alloc (by simp) _⟩
  have h := RowAt.new (w.alloc (.cells (tab 5 Q) 24)) 25 (ints 5 f)
  rw [World.size_alloc] at h
  exact h
set_option maxRecDepth 100000 in
set_option maxHeartbeats 2000000 in
theorem pshown_any (Q : Nat → Value) (ln : Nat → Nat) (pin : Nat → Nat → Bool) (p : Nat → Nat) (hp : ∀ k, k < 5 → p k < ln k ∧ ln k ≤ 47) (w : World) (hQ : ∀ k, k < 5 → PinsAt w (Q k) (ln k) (pin k)) : Calls Try.prog 23 #[.agg (tab 5 Q), .agg (ints 5 fun k => ((p k : Nat) : Int))] w fun e w' => e = .returned (.int .i64 (numOf (fun h => pin h (p h)) 5 : Nat)) ∧ Below w.heap.size w w' := by
  have h0 := TwAt.new w Q fun k => ((p k : Nat) : Int)
  have HQ := (show Hid _ from hQ)
  have HP := (show Hid _ from hp)
  clear hQ hp
  go_enter Try.func23, Try.ntmps23
  go_upto_region 2 with fail
  generalize (w.alloc (.cells (tab 5 Q) 24)).alloc (.cells (ints 5 fun k => ((p k : Nat) : Int)) 25) = W0 at *
  go_wp2_with (first | refine wpList_load_row rfl 24 _ rfl w.heap.size rfl 24 (tab 5 Q) (0, 0) _ h0.wheels Try.underlying24 rfl (by rw [tab_size]; exact t_info_fivep) ?_)
  go_loopw [5, 9] (fun n x W => ∃ k : Nat, k ≤ 5 ∧ x = .int .i64 (k : Nat) ∧ n = .int .i64 (numOf (fun h => pin h (p h)) k : Nat) ∧ TwAt w W Q fun k => ((p k : Nat) : Int)) (fun _ x _ => ((5 : Int) - intOf x).toNat)
  case atStart => exact ⟨0, by omega, rfl, rfl, h0⟩
  case round =>
    clear h0
    obtain ⟨k, hk, rfl, rfl, hg⟩ := hrel
    have HG := (show Hid (TwAt w wr Q fun k => ((p k : Nat) : Int)) from hg)
    by_cases hlt : k < 5
    · have HLT : Hid (k < 5) := hlt
      have hlt2 : (k : Int) < 5 := by omega
      have hpk := HP.out k hlt
      obtain ⟨bp, op, cp, hv, _, hc⟩ := (HQ.out k hlt).form (by omega)
      have hcp := hc _ hpk.1
      have hc2 := (hg.below.cell (p := ⟨bp, op + p k, none⟩) (cell_block hcp)).trans hcp
      have hpl := hg.places.cell (ints_get (fun k => ((p k : Nat) : Int)) hlt)
      have hix := index_pins Q hlt
      rw [hv] at hix
      have hn := numOf_lt (fun h => pin h (p h)) k
      have hn2 : 2 ^ k ≤ 2 ^ 5 := Nat.pow_le_pow_right (by decide) hk
      have HST : Hid (numOf (fun h => pin h (p h)) (k + 1) = 2 * numOf (fun h => pin h (p h)) k + if pin k (p k) = true then 1 else 0) := rfl
      have hnl : numOf (fun h => pin h (p h)) k < 32 := by omega
      clear hn hn2 hg hcp hc hv
      generalize numOf (fun h => pin h (p h)) k = N at *
      generalize pin k (p k) = y at *
      generalize p k = q at *
      generalize ln k = l at *
      have hq1 : (q : Int) < (l : Int) := by omega
      clear hlt
      cases y
      · have HN : Hid (numOf (fun h => pin h (p h)) (k + 1) = 2 * N) := HST.out
        clear HST
        go_wp2
        go_roundw
        case rel => exact ⟨k + 1, HLT.out, by go_num, by rw [HN.out]; go_num, HG.out⟩
        case measure => have := HLT.out; simp [intOf]; omega
      · have HN : Hid (numOf (fun h => pin h (p h)) (k + 1) = 2 * N + 1) := HST.out
        clear HST
        go_wp2
        go_roundw
        case rel => exact ⟨k + 1, HLT.out, by go_num, by rw [HN.out]; go_num, HG.out⟩
        case measure => have := HLT.out; simp [intOf]; omega
    · obtain rfl : k = 5 := by omega
      generalize hNN : numOf (fun h => pin h (p h)) 5 = N at *
      have HNN := (show Hid (numOf (fun h => pin h (p h)) 5 = N) from hNN)
      clear hg hlt HQ HP hNN
      go_wp2
      go_ret
      exact ⟨by rw [HNN.out]; rfl, HG.out.below⟩
theorem results_cell1 {P : Program} {fn : Func} {p : Tmp} {ty : TypeId} (h : fn.results = #[.cell p ty]) (tmps : Array Value) (w : World) (g : Nat) (t : TypeId) (cs : Array Value) (fr : Nat × Nat) (d : TypeDesc)
    (hp : tmps.getD p undef = .pointer (some ⟨g, 0, none⟩)) (hg : w.heap[g]? = some (.cells cs t fr))
    (hu : P.underlying ty = some d) (hd : (match d with | .struct _ | .array _ _ => true | _ => false) = true) (hi : (P.info? ty).map (·.size) = some cs.size) :
    (results fn tmps).run P w = .ok (.agg cs) w := by
  have hp' : tmps[p]?.getD undef = .pointer (some ⟨g, 0, none⟩) := by simpa using hp
  simp [results, h, hp', asAddr, run_loadVar_row w g t ty cs fr d hg hu hd hi]
/-- The first m wheels have gone on. -/
def onF (ln : Nat → Nat) (p : Nat → Nat) (m : Nat) : Nat → Int := fun k => ((if k < m then (p k + 1) % ln k else p k : Nat) : Int)
theorem onF_next (ln p : Nat → Nat) (m : Nat) : ints 5 (upd (onF ln p m) m (((p m + 1) % ln m : Nat) : Int)) = ints 5 (onF ln p (m + 1)) := ints_ext fun i _ => by
  unfold upd onF
  by_cases e : i = m
  · subst e
    rw [if_pos rfl, if_pos (by omega)]
  · rw [if_neg e]
    by_cases e2 : i < m
    · rw [if_pos e2, if_pos (by omega)]
    · rw [if_neg e2, if_neg (by omega)]
theorem onF_start (ln p : Nat → Nat) : (ints 5 fun k => ((p k : Nat) : Int)) = ints 5 (onF ln p 0) := ints_ext fun i _ => by
  unfold onF
  rw [if_neg (by omega)]
theorem onF_all (ln p : Nat → Nat) : ints 5 (onF ln p 5) = ints 5 fun k => (((p k + 1) % ln k : Nat) : Int) := ints_ext fun i hi => by
  unfold onF
  rw [if_pos hi]
/-- And a third box, for the result. -/
structure ToAt (w W : World) (Q : Nat → Value) (f : Nat → Int) : Prop where
  wheels : RowAt W w.heap.size 24 (tab 5 Q)
  places : RowAt W (w.heap.size + 1) 25 (ints 5 f)
  out : RowAt W (w.heap.size + 2) 25 (ints 5 fun _ => 0)
  below : Below w.heap.size w W
theorem ToAt.new (w : World) (Q : Nat → Value) (f : Nat → Int) : ToAt w (((w.alloc (.cells (tab 5 Q) 24)).alloc (.cells (ints 5 f) 25)).alloc (.cells (ints 5 fun _ => 0) 25)) Q f := by
  have h := TwAt.new w Q f
  refine ⟨h.wheels.alloc _, h.places.alloc _, ?_, h.below.alloc h.below.size _⟩
  have h3 := RowAt.new ((w.alloc (.cells (tab 5 Q) 24)).alloc (.cells (ints 5 f) 25)) 25 (ints 5 fun _ => 0)
  rw [World.size_alloc, World.size_alloc] at h3
  exact h3
set_option maxRecDepth 100000 in
set_option maxHeartbeats 2000000 in
theorem ponward_any (Q : Nat → Value) (ln : Nat → Nat) (p : Nat → Nat) (hp : ∀ k, k < 5 → p k < ln k ∧ ln k ≤ 47) (w : World) (hQ : ∀ k, k < 5 → ∃ a c, Q k = .slice a (ln k) c) : Calls Try.prog 39 #[.agg (tab 5 Q), .agg (ints 5 fun k => ((p k : Nat) : Int))] w fun e w' => e = .returned (.agg (ints 5 fun k => (((p k + 1) % ln k : Nat) : Int))) ∧ Below w.heap.size w w' := by
  have h0 := ToAt.new w Q fun k => ((p k : Nat) : Int)
  have hzz := o_zero t_zero_fivei
  have HQ := (show Hid _ from hQ)
  have HP := (show Hid _ from hp)
  clear hQ hp
  go_enter Try.func39, Try.ntmps39
  go_upto_region 1 with fail
  rw [onF_start ln p] at h0 ⊢
  generalize ((w.alloc (.cells (tab 5 Q) 24)).alloc (.cells (ints 5 (onF ln p 0)) 25)).alloc (.cells (ints 5 fun _ => 0) 25) = W0 at *
  go_wp2_with (first | refine wpList_load_row rfl 24 _ rfl w.heap.size rfl 24 (tab 5 Q) (0, 0) _ h0.wheels Try.underlying24 rfl (by rw [tab_size]; exact t_info_fivep) ?_)
  clear hzz
  go_loopw [8] (fun x W => ∃ k : Nat, k ≤ 5 ∧ x = .int .i64 (k : Nat) ∧ ToAt w W Q (onF ln p k)) (fun x _ => ((5 : Int) - intOf x).toNat)
  case atStart => exact ⟨0, by omega, rfl, h0⟩
  case round =>
    clear h0
    obtain ⟨k, hk, rfl, hg⟩ := hrel
    by_cases hlt : k < 5
    · have HLT : Hid (k < 5) := hlt
      have hlt2 : (k : Int) < 5 := by omega
      have hpk := HP.out k hlt
      obtain ⟨ap, cp, hv⟩ := HQ.out k hlt
      have hpl := hg.places.cell (ints_get (onF ln p k) hlt)
      have hpe : onF ln p k k = ((p k : Nat) : Int) := by unfold onF; rw [if_neg (by omega)]
      rw [hpe] at hpl
      have hfz := hg.places.frozen k
      have hix := index_pins Q hlt
      rw [hv] at hix
      have HCA := (show Hid (∀ W, Calls Try.prog 40 #[.slice ap (ln k) cp, .int .i64 (p k : Nat)] W fun e w' => e = .returned (.int .i64 (((p k + 1) % ln k : Nat) : Int)) ∧ W = w') from fun W => pnx_any ap (ln k) cp (p k) (by omega) hpk.2 hpk.1 W)
      have HNX := (show Hid _ from onF_next ln p k)
      have HN : Hid (∀ y, y = (p k + 1) % ln k → ToAt w (wr.setCell ⟨w.heap.size + 1, k, none⟩ (.int .i64 ((y : Nat) : Int))) Q (onF ln p (k + 1))) := fun y hy => by
        refine ⟨hg.wheels.setOther _ _ (by show w.heap.size ≠ w.heap.size + 1; omega), ?_, hg.out.setOther _ _ (by show w.heap.size + 2 ≠ w.heap.size + 1; omega), hg.below.setCell (p := ⟨w.heap.size + 1, k, none⟩) (by show w.heap.size ≤ w.heap.size + 1; omega) _⟩
        have h1 := hg.places.set k (.int .i64 ((y : Nat) : Int))
        rw [ints_set, hy, HNX.out] at h1
        exact hy ▸ h1
      have HN2 := (show Hid _ from HN.out _ rfl)
      clear HN HNX hg hv hpe
      generalize (p k + 1) % ln k = y at *
      generalize p k = q at *
      generalize ln k = l at *
      clear hlt
      go_wp2_with fail
      refine Calls.mono (HCA.out _) ?_
      rintro e Y ⟨rfl, rfl⟩
      clear HCA hix
      go_wp2
      go_roundw
      case rel => exact ⟨k + 1, HLT.out, by go_num, HN2.out⟩
      case measure => have := HLT.out; simp [intOf]; omega
    · obtain rfl : k = 5 := by omega
      have hpl := hg.places
      rw [onF_all] at hpl
      have hout := hg.out
      have HB := (show Hid (Below w.heap.size w wr) from hg.below)
      obtain ⟨g, hgg⟩ : ∃ g : Nat → Int, g = fun k => (((p k + 1) % ln k : Nat) : Int) := ⟨_, rfl⟩
      have HGG := (show Hid _ from hgg)
      rw [← hgg] at hpl
      clear hg hlt HP HQ hgg
      go_wp2_with (first | refine wpList_load_row rfl 25 _ rfl (w.heap.size + 1) rfl 25 (ints 5 g) (0, 0) _ hpl Try.underlying25 rfl (by rw [ints_size]; exact t_info_fivei) ?_ | refine wpList_store_row rfl 25 _ _ rfl (w.heap.size + 2) (ints 5 g) rfl rfl 25 _ hout (by rw [ints_size]; exact t_info_fivei) (by simp only [ints_size]) (ints_one _ _) ?_)
      refine bodyPost_ret (v := .agg (ints 5 g)) (results_cell1 Try.results39 _ _ _ _ _ _ _ rfl (hout.row _) Try.underlying25 rfl (by rw [ints_size]; exact t_info_fivei)) rfl ⟨by rw [HGG.out], Below.setRow HB.out _ (by omega) _⟩
end Go.Proofs.Ytbcjblakknfhmaa
