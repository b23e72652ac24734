/-
  Write and Read of pad and of the document's chapter 14: what they answer is new.
-/
import Derived.Test.YtlfghnngbljlhaaPdP
import Derived.Test.YtlfghnngbljlhaaPdT
namespace Go.Proofs.Ytlfghnngbljlhaa
open Go.RowKit PK Pd

/-- It lies in a block that was not there. -/
def New (w : World) (v : Value) : Prop := ∀ b, v.ownBlock = some b → w.heap.size ≤ b
theorem New.nil (w : World) : New w (.slice none 0 0) := fun b e => by cases e
set_option maxRecDepth 100000 in
set_option maxHeartbeats 4000000 in
theorem pwr_new (n : Int) (vt vp : Value) (nt np : Nat) (ft fp : Nat → Int) (w : World) (ht : NumsAt w vt nt ft) (hp : NumsAt w vp np fp) : Calls Try.prog 20 #[.int .i64 n, vt, vp] w fun e w' => ∃ v, e = .returned (.tuple #[v, .int .i64 (txE n nt np ft fp)]) ∧ Ans w' v (rl (txE n nt np ft fp) nt) (wrF n ft fp) ∧ New w v ∧ Below w.heap.size w w' := by
  have HT := (show Hid (Calls Try.prog 27 #[.int .i64 n, vt, vp] w fun e w' => e = .returned (.int .i64 (txE n nt np ft fp)) ∧ Below w.heap.size w w') from ptxt_any n vt vp nt np ft fp w ht hp)
  obtain ⟨at', ct, rfl, hmt, hct⟩ := ht
  obtain ⟨ap, cp, rfl, hmp, hcp⟩ := hp
  have HCT := (show Hid (∀ c, c < nt → ∃ b o, at' = some ⟨b, o, none⟩ ∧ w.cell? ⟨b, o + c, none⟩ = some (.int .i64 (ft c))) from hct)
  have HCP := (show Hid (∀ c, c < np → ∃ b o, ap = some ⟨b, o, none⟩ ∧ w.cell? ⟨b, o + c, none⟩ = some (.int .i64 (fp c))) from hcp)
  unfold maxLen at hmt hmp
  clear hct hcp
  obtain ⟨E, hE⟩ : ∃ E, E = txE n nt np ft fp := ⟨_, rfl⟩
  rw [← hE] at HT ⊢
  have HE := (show Hid _ from hE)
  clear hE
  by_cases hE : E = 0
  case neg =>
    have hE1 : (E != 0) = true := by simp [hE]
    have HR : Hid (rl E nt = 0) := by unfold rl; rw [Hid, if_neg hE]
    clear hE HCT HCP HE
    go_enter Try.func20, Try.ntmps20
    go_wp2_with fail
    refine HT.out.mono ?_
    rintro e W1 ⟨rfl, hb⟩
    clear HT
    go_wp2
    go_ret2
    exact ⟨_, rfl, by rw [HR.out]; exact Ans.nil _ _, New.nil _, hb⟩
  subst hE
  obtain ⟨h1, h2, hft, hfp, h5, h6⟩ := txE_zero HE.out.symm
  clear HE
  obtain ⟨N, rfl⟩ : ∃ N : Nat, n = (N : Int) := ⟨n.toNat, by omega⟩
  have HFT := (show Hid _ from hft)
  have HFP := (show Hid _ from hfp)
  have hN1 : 2 ≤ N := by omega
  have hN2 : N ≤ 64 := by omega
  have hmk := run_make_row' (P := Try.prog) 22 3 (.int .i64 0) 8 Try.underlying22 g_info_int rfl .i64 .i64 nt (by omega) (by omega)
  rw [made_tabT] at hmk
  clear hft hfp h1 h2
  go_enter Try.func20, Try.ntmps20
  go_wp2_with fail
  refine HT.out.mono ?_
  rintro e W1 ⟨rfl, hbe0⟩
  clear HT
  go_upto_region 5 with fail
  have hr6 : RowAt (W1.alloc (.cells (tab nt fun _ => .int .i64 0) 3)) W1.heap.size 3 (ints nt (mk (wrF (N : Int) ft fp) 0)) := by
    rw [← mk_zero]
    exact RowAt.new W1 _ _
  have hb6 := hbe0.alloc hbe0.size (.cells (tab nt fun _ => .int .i64 0) 3)
  generalize W1.alloc (.cells (tab nt fun _ => .int .i64 0) 3) = W3 at *
  have hz0 := hbe0.size
  generalize W1.heap.size = g at *
  clear hmk hbe0
  go_wp2_with fail
  go_loopw [24] (fun x W => ∃ i : Nat, i ≤ nt ∧ x = .int .i64 (i : Nat) ∧ RowAt W g 3 (ints nt (mk (wrF (N : Int) ft fp) i)) ∧ Below w.heap.size w W) (fun x _ => ((nt : Int) - intOf x).toNat)
  case atStart => exact ⟨0, by omega, rfl, hr6, hb6⟩
  case round =>
    clear hr6 hb6
    obtain ⟨i, hi, rfl, hro, hbe⟩ := hrel
    by_cases hlt : i < nt
    case neg =>
      obtain rfl : i = nt := by omega
      have hnn : ¬ ((i : Nat) : Int) < ((i : Nat) : Int) := by omega
      rw [mk_all] at hro
      have HRO := (show Hid _ from hro)
      have HBE := (show Hid _ from hbe)
      have HR : Hid (rl 0 i = i) := rfl
      clear hro hbe hlt
      go_wp2
      go_ret2
      exact ⟨_, rfl, by rw [HR.out]; exact Ans.row HRO.out (by unfold maxLen; omega), fun b e => (by cases e; exact hz0), HBE.out⟩
    have HLT : Hid (i < nt) := hlt
    have hlt2 : (i : Int) < (nt : Int) := by omega
    have hlt3 : (i : Int) < (np : Int) := by omega
    obtain ⟨b1, o1, rfl, c1⟩ := HCT.out i hlt
    obtain ⟨b2, o2, rfl, c2⟩ := HCP.out i (by omega)
    have d1 := (hbe.cell (p := ⟨b1, o1 + i, none⟩) (cell_block c1)).trans c1
    have d2 := (hbe.cell (p := ⟨b2, o2 + i, none⟩) (cell_block c2)).trans c2
    obtain ⟨x, hx⟩ : ∃ x, x = (ft i).toNat := ⟨_, rfl⟩
    obtain ⟨y, hy⟩ : ∃ y, y = (fp i).toNat := ⟨_, rfl⟩
    have hx1 := HFT.out i hlt
    have hy1 := HFP.out i (by omega)
    have hx2 : ft i = (x : Int) := by omega
    have hy2 : fp i = (y : Int) := by omega
    have hx3 : x < N := by omega
    have hy3 : y < N := by omega
    have HV : Hid (wrF (N : Int) ft fp i = (((x + y) % N : Nat) : Int)) := by
      rw [Hid]
      unfold wrF
      rw [← hx, ← hy, Int.toNat_natCast]
    rw [hx2] at d1
    rw [hy2] at d2
    clear c1 c2 hx hy hx1 hy1 hx2 hy2 hlt
    have hz := hbe.size
    obtain ⟨y', hy'⟩ : ∃ y', y' = y := ⟨_, rfl⟩
    rw [← hy'] at d2 HV hy3
    clear hy'
    go_wp2_with fail
    refine (padd_two N x y' hN1 hN2 hx3 hy3 wr).mono ?_
    rintro e W4 ⟨rfl, rfl⟩
    have hqn : i < nt := HLT.out
    have hro5 := hro.alloc (.cells #[.int .i64 (x : Nat), .int .i64 (y' : Nat)] 3)
    have hbe5 := hbe.alloc hz (.cells #[.int .i64 (x : Nat), .int .i64 (y' : Nat)] 3)
    have hcell := hro5.cell (ints_get (mk (wrF (N : Int) ft fp) i) hqn)
    have hfz := hro5.frozen i
    generalize wr.alloc (.cells #[.int .i64 (x : Nat), .int .i64 (y' : Nat)] 3) = W5 at *
    have HN : Hid (RowAt (W5.setCell ⟨g, i, none⟩ (.int .i64 (wrF (N : Int) ft fp i))) g 3 (ints nt (mk (wrF (N : Int) ft fp) (i + 1))) ∧ Below w.heap.size w (W5.setCell ⟨g, i, none⟩ (.int .i64 (wrF (N : Int) ft fp i)))) := by
      refine ⟨?_, hbe5.setCell (p := ⟨g, i, none⟩) hz0 _⟩
      have h1 := hro5.set i (.int .i64 (wrF (N : Int) ft fp i))
      rw [ints_set, mk_next] at h1
      exact h1
    rw [HV.out] at HN
    clear HV hro hbe hro5 hbe5 hqn
    generalize (x + y') % N = z at *
    go_wp2
    go_roundw
    case rel => exact ⟨i + 1, HLT.out, by go_num, HN.out.1, HN.out.2⟩
    case measure => have := HLT.out; simp [intOf]; omega
set_option maxRecDepth 100000 in
set_option maxHeartbeats 4000000 in
theorem prd_new (n : Int) (vt vp : Value) (nt np : Nat) (ft fp : Nat → Int) (w : World) (ht : NumsAt w vt nt ft) (hp : NumsAt w vp np fp) : Calls Try.prog 24 #[.int .i64 n, vt, vp] w fun e w' => ∃ v, e = .returned (.tuple #[v, .int .i64 (txE n nt np ft fp)]) ∧ Ans w' v (rl (txE n nt np ft fp) nt) (rdF n ft fp) ∧ New w v ∧ Below w.heap.size w w' := by
  have HT := (show Hid (Calls Try.prog 27 #[.int .i64 n, vt, vp] w fun e w' => e = .returned (.int .i64 (txE n nt np ft fp)) ∧ Below w.heap.size w w') from ptxt_any n vt vp nt np ft fp w ht hp)
  obtain ⟨at', ct, rfl, hmt, hct⟩ := ht
  obtain ⟨ap, cp, rfl, hmp, hcp⟩ := hp
  have HCT := (show Hid (∀ c, c < nt → ∃ b o, at' = some ⟨b, o, none⟩ ∧ w.cell? ⟨b, o + c, none⟩ = some (.int .i64 (ft c))) from hct)
  have HCP := (show Hid (∀ c, c < np → ∃ b o, ap = some ⟨b, o, none⟩ ∧ w.cell? ⟨b, o + c, none⟩ = some (.int .i64 (fp c))) from hcp)
  unfold maxLen at hmt hmp
  clear hct hcp
  obtain ⟨E, hE⟩ : ∃ E, E = txE n nt np ft fp := ⟨_, rfl⟩
  rw [← hE] at HT ⊢
  have HE := (show Hid _ from hE)
  clear hE
  by_cases hE : E = 0
  case neg =>
    have hE1 : (E != 0) = true := by simp [hE]
    have HR : Hid (rl E nt = 0) := by unfold rl; rw [Hid, if_neg hE]
    clear hE HCT HCP HE
    go_enter Try.func24, Try.ntmps24
    go_wp2_with fail
    refine HT.out.mono ?_
    rintro e W1 ⟨rfl, hb⟩
    clear HT
    go_wp2
    go_ret2
    exact ⟨_, rfl, by rw [HR.out]; exact Ans.nil _ _, New.nil _, hb⟩
  subst hE
  obtain ⟨h1, h2, hft, hfp, h5, h6⟩ := txE_zero HE.out.symm
  clear HE
  obtain ⟨N, rfl⟩ : ∃ N : Nat, n = (N : Int) := ⟨n.toNat, by omega⟩
  have HFT := (show Hid _ from hft)
  have HFP := (show Hid _ from hfp)
  have hN1 : 2 ≤ N := by omega
  have hN2 : N ≤ 64 := by omega
  have hmk := run_make_row' (P := Try.prog) 22 3 (.int .i64 0) 8 Try.underlying22 g_info_int rfl .i64 .i64 nt (by omega) (by omega)
  rw [made_tabT] at hmk
  clear hft hfp h1 h2
  go_enter Try.func24, Try.ntmps24
  go_wp2_with fail
  refine HT.out.mono ?_
  rintro e W1 ⟨rfl, hbe0⟩
  clear HT
  go_upto_region 5 with fail
  have hr6 : RowAt (W1.alloc (.cells (tab nt fun _ => .int .i64 0) 3)) W1.heap.size 3 (ints nt (mk (rdF (N : Int) ft fp) 0)) := by
    rw [← mk_zero]
    exact RowAt.new W1 _ _
  have hb6 := hbe0.alloc hbe0.size (.cells (tab nt fun _ => .int .i64 0) 3)
  generalize W1.alloc (.cells (tab nt fun _ => .int .i64 0) 3) = W3 at *
  have hz0 := hbe0.size
  generalize W1.heap.size = g at *
  clear hmk hbe0
  go_wp2_with fail
  go_loopw [24] (fun x W => ∃ i : Nat, i ≤ nt ∧ x = .int .i64 (i : Nat) ∧ RowAt W g 3 (ints nt (mk (rdF (N : Int) ft fp) i)) ∧ Below w.heap.size w W) (fun x _ => ((nt : Int) - intOf x).toNat)
  case atStart => exact ⟨0, by omega, rfl, hr6, hb6⟩
  case round =>
    clear hr6 hb6
    obtain ⟨i, hi, rfl, hro, hbe⟩ := hrel
    by_cases hlt : i < nt
    case neg =>
      obtain rfl : i = nt := by omega
      have hnn : ¬ ((i : Nat) : Int) < ((i : Nat) : Int) := by omega
      rw [mk_all] at hro
      have HRO := (show Hid _ from hro)
      have HBE := (show Hid _ from hbe)
      have HR : Hid (rl 0 i = i) := rfl
      clear hro hbe hlt
      go_wp2
      go_ret2
      exact ⟨_, rfl, by rw [HR.out]; exact Ans.row HRO.out (by unfold maxLen; omega), fun b e => (by cases e; exact hz0), HBE.out⟩
    have HLT : Hid (i < nt) := hlt
    have hlt2 : (i : Int) < (nt : Int) := by omega
    have hlt3 : (i : Int) < (np : Int) := by omega
    obtain ⟨b1, o1, rfl, c1⟩ := HCT.out i hlt
    obtain ⟨b2, o2, rfl, c2⟩ := HCP.out i (by omega)
    have d1 := (hbe.cell (p := ⟨b1, o1 + i, none⟩) (cell_block c1)).trans c1
    have d2 := (hbe.cell (p := ⟨b2, o2 + i, none⟩) (cell_block c2)).trans c2
    obtain ⟨x, hx⟩ : ∃ x, x = (ft i).toNat := ⟨_, rfl⟩
    obtain ⟨y, hy⟩ : ∃ y, y = (fp i).toNat := ⟨_, rfl⟩
    have hx1 := HFT.out i hlt
    have hy1 := HFP.out i (by omega)
    have hx2 : ft i = (x : Int) := by omega
    have hy2 : fp i = (y : Int) := by omega
    have hx3 : x < N := by omega
    have hy3 : y < N := by omega
    have HV : Hid (rdF (N : Int) ft fp i = (((x + (N - y) % N) % N : Nat) : Int)) := by
      rw [Hid]
      unfold rdF
      rw [← hx, ← hy, Int.toNat_natCast]
      rfl
    rw [hx2] at d1
    rw [hy2] at d2
    clear c1 c2 hx hy hx1 hy1 hx2 hy2 hlt
    have hz := hbe.size
    go_wp2_with fail
    refine (popp_any N y hN1 hN2 hy3 wr).mono ?_
    rintro e W4 ⟨rfl, rfl⟩
    have hy4 : (N - y) % N < N := Nat.mod_lt _ (by omega)
    generalize (N - y) % N = y' at *
    go_wp2_with fail
    refine (padd_two N x y' hN1 hN2 hx3 hy4 wr).mono ?_
    rintro e W4 ⟨rfl, rfl⟩
    have hqn : i < nt := HLT.out
    have hro5 := hro.alloc (.cells #[.int .i64 (x : Nat), .int .i64 (y' : Nat)] 3)
    have hbe5 := hbe.alloc hz (.cells #[.int .i64 (x : Nat), .int .i64 (y' : Nat)] 3)
    have hcell := hro5.cell (ints_get (mk (rdF (N : Int) ft fp) i) hqn)
    have hfz := hro5.frozen i
    generalize wr.alloc (.cells #[.int .i64 (x : Nat), .int .i64 (y' : Nat)] 3) = W5 at *
    have HN : Hid (RowAt (W5.setCell ⟨g, i, none⟩ (.int .i64 (rdF (N : Int) ft fp i))) g 3 (ints nt (mk (rdF (N : Int) ft fp) (i + 1))) ∧ Below w.heap.size w (W5.setCell ⟨g, i, none⟩ (.int .i64 (rdF (N : Int) ft fp i)))) := by
      refine ⟨?_, hbe5.setCell (p := ⟨g, i, none⟩) hz0 _⟩
      have h1 := hro5.set i (.int .i64 (rdF (N : Int) ft fp i))
      rw [ints_set, mk_next] at h1
      exact h1
    rw [HV.out] at HN
    clear HV hro hbe hro5 hbe5 hqn
    generalize (x + y') % N = z at *
    go_wp2
    go_roundw
    case rel => exact ⟨i + 1, HLT.out, by go_num, HN.out.1, HN.out.2⟩
    case measure => have := HLT.out; simp [intOf]; omega
set_option maxRecDepth 100000 in
set_option maxHeartbeats 4000000 in
theorem rwr_new (n : Int) (vt vp : Value) (nt np : Nat) (ft fp : Nat → Int) (w : World) (ht : NumsAt w vt nt ft) (hp : NumsAt w vp np fp) : Calls Try.prog 18 #[.int .i64 n, vt, vp] w fun e w' => ∃ v, e = .returned (.tuple #[v, .int .i64 (txE n nt np ft fp)]) ∧ Ans w' v (rl (txE n nt np ft fp) nt) (wrF n ft fp) ∧ New w v ∧ Below w.heap.size w w' := by
  have HT := (show Hid (Calls Try.prog 25 #[.int .i64 n, vt, vp] w fun e w' => w = w' ∧ e = .returned (.int .i64 (txE n nt np ft fp))) from rtwo_any n vt vp nt np ft fp w ht hp)
  obtain ⟨i0, hi0, hz0', hz1, hz2⟩ := y_info_parts g_info_int
  obtain ⟨at', ct, rfl, hmt, hct⟩ := ht
  obtain ⟨ap, cp, rfl, hmp, hcp⟩ := hp
  have HCT := (show Hid (∀ c, c < nt → ∃ b o, at' = some ⟨b, o, none⟩ ∧ w.cell? ⟨b, o + c, none⟩ = some (.int .i64 (ft c))) from hct)
  have HCP := (show Hid (∀ c, c < np → ∃ b o, ap = some ⟨b, o, none⟩ ∧ w.cell? ⟨b, o + c, none⟩ = some (.int .i64 (fp c))) from hcp)
  unfold maxLen at hmt hmp
  clear hct hcp
  obtain ⟨E, hE⟩ : ∃ E, E = txE n nt np ft fp := ⟨_, rfl⟩
  rw [← hE] at HT ⊢
  have HE := (show Hid _ from hE)
  clear hE
  by_cases hE : E = 0
  case neg =>
    have hE1 : (E != 0) = true := by simp [hE]
    have HR : Hid (rl E nt = 0) := by unfold rl; rw [Hid, if_neg hE]
    clear hE HCT HCP HE
    go_enter Try.func18, Try.ntmps18
    go_wp2_with fail
    refine HT.out.mono ?_
    rintro e W1 ⟨rfl, rfl⟩
    clear HT
    go_wp2
    go_ret2
    exact ⟨_, rfl, by rw [HR.out]; exact Ans.nil _ _, New.nil _, Below.refl _ _⟩
  subst hE
  obtain ⟨h1, h2, hft, hfp, h5, h6⟩ := txE_zero HE.out.symm
  clear HE
  obtain ⟨N, rfl⟩ : ∃ N : Nat, n = (N : Int) := ⟨n.toNat, by omega⟩
  have HFT := (show Hid _ from hft)
  have HFP := (show Hid _ from hfp)
  have hN1 : 2 ≤ N := by omega
  have hN2 : N ≤ 64 := by omega
  obtain ⟨V, hV⟩ : ∃ V : Nat → Nat, V = fun i => ((ft i).toNat + (fp i).toNat) % N := ⟨_, rfl⟩
  have HV := (show Hid _ from hV)
  have HFV : Hid (∀ i, wrF (N : Int) ft fp i = ((V i : Nat) : Int)) := fun i => by
    rw [hV]
    unfold wrF
    rw [Int.toNat_natCast]
  have HVL : Hid (∀ i, V i < N) := fun i => by
    rw [hV]
    exact Nat.mod_lt _ (by omega)
  clear hV hft hfp h1 h2
  go_enter Try.func18, Try.ntmps18
  go_wp2_with fail
  refine HT.out.mono ?_
  rintro e W1 ⟨rfl, rfl⟩
  clear HT
  go_wp2_with fail
  go_loopw [9, 21] (fun o x W => ∃ (i : Nat) (v : Value), i ≤ nt ∧ x = .int .i64 (i : Nat) ∧ v = o ∧ OwnsL W w.heap.size v (ups V i) ∧ Below w.heap.size w W) (fun _ x _ => ((nt : Int) - intOf x).toNat)
  case atStart => exact ⟨0, _, by omega, rfl, rfl, OwnsL.nil _ _, Below.refl _ _⟩
  case round =>
    obtain ⟨i, v, hi, rfl, rfl, hown, hbe⟩ := hrel
    have hlen := ups_len V i
    have hz := hbe.size
    by_cases hlt : i < nt
    case neg =>
      obtain rfl : i = nt := by omega
      have hnn : ¬ ((i : Nat) : Int) < ((i : Nat) : Int) := by omega
      have HA : Hid (Ans wr v (rl 0 i) (wrF (N : Int) ft fp)) := by
        have h1 := hown.ans
        rw [ups_len] at h1
        refine ⟨h1.1, nums_ext h1.2 fun j hj => ?_⟩
        have hj' : j < i := hj
        rw [HFV.out j, ups_get V hj']
      have HBE := (show Hid _ from hbe)
      have HNW : Hid (New w v) := fun b e => (World.ownsRow.lt hown b e).1
      clear hown hbe hlt hlen hz
      go_wp2
      go_ret2
      exact ⟨_, rfl, HA.out, HNW.out, HBE.out⟩
    have HLT : Hid (i < nt) := hlt
    have hlt2 : (i : Int) < (nt : Int) := by omega
    have hlt3 : (i : Int) < (np : Int) := by omega
    obtain ⟨b1, o1, rfl, c1⟩ := HCT.out i hlt
    obtain ⟨b2, o2, rfl, c2⟩ := HCP.out i (by omega)
    have d1 := (hbe.cell (p := ⟨b1, o1 + i, none⟩) (cell_block c1)).trans c1
    have d2 := (hbe.cell (p := ⟨b2, o2 + i, none⟩) (cell_block c2)).trans c2
    obtain ⟨x, hx⟩ : ∃ x, x = (ft i).toNat := ⟨_, rfl⟩
    obtain ⟨y, hy⟩ : ∃ y, y = (fp i).toNat := ⟨_, rfl⟩
    have hx1 := HFT.out i hlt
    have hy1 := HFP.out i (by omega)
    have hx2 : ft i = (x : Int) := by omega
    have hy2 : fp i = (y : Int) := by omega
    have hx3 : x < N := by omega
    have hy3 : y < N := by omega
    have HVI : Hid (V i = (x + y) % N) := by
      rw [Hid, HV.out, hx, hy]
    have HNX := (show Hid (ups V (i + 1) = ups V i ++ [V i]) from ups_next V i)
    have hvl := HVL.out i
    rw [hx2] at d1
    rw [hy2] at d2
    clear c1 c2 hx hy hx1 hy1 hx2 hy2 hlt
    generalize ups V i = O at *
    go_wp2_with fail
    refine (ron_any N x y hN1 hN2 hx3 (by omega) wr).mono ?_
    rintro e W2 ⟨rfl, rfl⟩
    rw [← HVI.out]
    generalize V i = z at *
    go_wp2_with (first | (at_builtin; refine wpList_append_own _ rfl _ _ 22 rfl w.heap.size 3 i0 (.int .i64 0) 1 8 Try.underlying22 hi0 hz0' hz1 hz2 rfl (by decide) _ _ _ rfl (World.ownsRow.alloc hown _) ⟨wr.heap.size, 0, none⟩ 1 1 [.int .i64 (z : Nat)] rfl rfl (cell_one_new' _ _ _) (fun u hu => by simp at hu; subst hu; rfl) (by unfold maxLen; omega) (by omega) (by simp; omega) ?_; intro v' w1 hown' hgrow _))
    go_roundw
    case rel =>
      refine ⟨i + 1, v', HLT.out, by go_num, rfl, ?_, ?_⟩
      · rw [HNX.out, OwnsL, nnums_append, List.length_append]
        exact hown'
      · exact (hbe.alloc hbe.size _).grown hgrow (by simp; omega) (fun j hj => (World.ownsRow.lt hown j hj).1)
    case measure => have := HLT.out; simp [intOf]; omega
set_option maxRecDepth 100000 in
set_option maxHeartbeats 4000000 in
theorem rrd_new (n : Int) (vt vp : Value) (nt np : Nat) (ft fp : Nat → Int) (w : World) (ht : NumsAt w vt nt ft) (hp : NumsAt w vp np fp) : Calls Try.prog 19 #[.int .i64 n, vt, vp] w fun e w' => ∃ v, e = .returned (.tuple #[v, .int .i64 (txE n nt np ft fp)]) ∧ Ans w' v (rl (txE n nt np ft fp) nt) (rdF n ft fp) ∧ New w v ∧ Below w.heap.size w w' := by
  have HT := (show Hid (Calls Try.prog 25 #[.int .i64 n, vt, vp] w fun e w' => w = w' ∧ e = .returned (.int .i64 (txE n nt np ft fp))) from rtwo_any n vt vp nt np ft fp w ht hp)
  obtain ⟨i0, hi0, hz0', hz1, hz2⟩ := y_info_parts g_info_int
  obtain ⟨at', ct, rfl, hmt, hct⟩ := ht
  obtain ⟨ap, cp, rfl, hmp, hcp⟩ := hp
  have HCT := (show Hid (∀ c, c < nt → ∃ b o, at' = some ⟨b, o, none⟩ ∧ w.cell? ⟨b, o + c, none⟩ = some (.int .i64 (ft c))) from hct)
  have HCP := (show Hid (∀ c, c < np → ∃ b o, ap = some ⟨b, o, none⟩ ∧ w.cell? ⟨b, o + c, none⟩ = some (.int .i64 (fp c))) from hcp)
  unfold maxLen at hmt hmp
  clear hct hcp
  obtain ⟨E, hE⟩ : ∃ E, E = txE n nt np ft fp := ⟨_, rfl⟩
  rw [← hE] at HT ⊢
  have HE := (show Hid _ from hE)
  clear hE
  by_cases hE : E = 0
  case neg =>
    have hE1 : (E != 0) = true := by simp [hE]
    have HR : Hid (rl E nt = 0) := by unfold rl; rw [Hid, if_neg hE]
    clear hE HCT HCP HE
    go_enter Try.func19, Try.ntmps19
    go_wp2_with fail
    refine HT.out.mono ?_
    rintro e W1 ⟨rfl, rfl⟩
    clear HT
    go_wp2
    go_ret2
    exact ⟨_, rfl, by rw [HR.out]; exact Ans.nil _ _, New.nil _, Below.refl _ _⟩
  subst hE
  obtain ⟨h1, h2, hft, hfp, h5, h6⟩ := txE_zero HE.out.symm
  clear HE
  obtain ⟨N, rfl⟩ : ∃ N : Nat, n = (N : Int) := ⟨n.toNat, by omega⟩
  have HFT := (show Hid _ from hft)
  have HFP := (show Hid _ from hfp)
  have hN1 : 2 ≤ N := by omega
  have hN2 : N ≤ 64 := by omega
  obtain ⟨V, hV⟩ : ∃ V : Nat → Nat, V = fun i => lst N (ft i).toNat (fp i).toNat := ⟨_, rfl⟩
  have HV := (show Hid _ from hV)
  have HFV : Hid (∀ i, rdF (N : Int) ft fp i = ((V i : Nat) : Int)) := fun i => by
    rw [hV]
    unfold rdF
    rw [Int.toNat_natCast]
  have HVL : Hid (∀ i, V i < N) := fun i => by
    rw [hV]
    exact Nat.mod_lt _ (by omega)
  clear hV hft hfp h1 h2
  go_enter Try.func19, Try.ntmps19
  go_wp2_with fail
  refine HT.out.mono ?_
  rintro e W1 ⟨rfl, rfl⟩
  clear HT
  go_wp2_with fail
  go_loopw [9, 21] (fun o x W => ∃ (i : Nat) (v : Value), i ≤ nt ∧ x = .int .i64 (i : Nat) ∧ v = o ∧ OwnsL W w.heap.size v (ups V i) ∧ Below w.heap.size w W) (fun _ x _ => ((nt : Int) - intOf x).toNat)
  case atStart => exact ⟨0, _, by omega, rfl, rfl, OwnsL.nil _ _, Below.refl _ _⟩
  case round =>
    obtain ⟨i, v, hi, rfl, rfl, hown, hbe⟩ := hrel
    have hlen := ups_len V i
    have hz := hbe.size
    by_cases hlt : i < nt
    case neg =>
      obtain rfl : i = nt := by omega
      have hnn : ¬ ((i : Nat) : Int) < ((i : Nat) : Int) := by omega
      have HA : Hid (Ans wr v (rl 0 i) (rdF (N : Int) ft fp)) := by
        have h1 := hown.ans
        rw [ups_len] at h1
        refine ⟨h1.1, nums_ext h1.2 fun j hj => ?_⟩
        have hj' : j < i := hj
        rw [HFV.out j, ups_get V hj']
      have HBE := (show Hid _ from hbe)
      have HNW : Hid (New w v) := fun b e => (World.ownsRow.lt hown b e).1
      clear hown hbe hlt hlen hz
      go_wp2
      go_ret2
      exact ⟨_, rfl, HA.out, HNW.out, HBE.out⟩
    have HLT : Hid (i < nt) := hlt
    have hlt2 : (i : Int) < (nt : Int) := by omega
    have hlt3 : (i : Int) < (np : Int) := by omega
    obtain ⟨b1, o1, rfl, c1⟩ := HCT.out i hlt
    obtain ⟨b2, o2, rfl, c2⟩ := HCP.out i (by omega)
    have d1 := (hbe.cell (p := ⟨b1, o1 + i, none⟩) (cell_block c1)).trans c1
    have d2 := (hbe.cell (p := ⟨b2, o2 + i, none⟩) (cell_block c2)).trans c2
    obtain ⟨x, hx⟩ : ∃ x, x = (ft i).toNat := ⟨_, rfl⟩
    obtain ⟨y, hy⟩ : ∃ y, y = (fp i).toNat := ⟨_, rfl⟩
    have hx1 := HFT.out i hlt
    have hy1 := HFP.out i (by omega)
    have hx2 : ft i = (x : Int) := by omega
    have hy2 : fp i = (y : Int) := by omega
    have hx3 : x < N := by omega
    have hy3 : y < N := by omega
    have HVI : Hid (V i = (x + (N - y)) % N) := by
      rw [Hid, HV.out, hx, hy]
      exact lst_eq _ _ _
    have HNX := (show Hid (ups V (i + 1) = ups V i ++ [V i]) from ups_next V i)
    have hvl := HVL.out i
    rw [hx2] at d1
    rw [hy2] at d2
    clear c1 c2 hx hy hx1 hy1 hx2 hy2 hlt
    generalize ups V i = O at *
    have hsub : (N : Int) - (y : Int) = ((N - y : Nat) : Int) := by omega
    go_wp2_with fail
    refine (ron_any N x (N - y) hN1 hN2 hx3 (by omega) wr).mono ?_
    rintro e W2 ⟨rfl, rfl⟩
    rw [← HVI.out]
    generalize V i = z at *
    go_wp2_with (first | (at_builtin; refine wpList_append_own _ rfl _ _ 22 rfl w.heap.size 3 i0 (.int .i64 0) 1 8 Try.underlying22 hi0 hz0' hz1 hz2 rfl (by decide) _ _ _ rfl (World.ownsRow.alloc hown _) ⟨wr.heap.size, 0, none⟩ 1 1 [.int .i64 (z : Nat)] rfl rfl (cell_one_new' _ _ _) (fun u hu => by simp at hu; subst hu; rfl) (by unfold maxLen; omega) (by omega) (by simp; omega) ?_; intro v' w1 hown' hgrow _))
    go_roundw
    case rel =>
      refine ⟨i + 1, v', HLT.out, by go_num, rfl, ?_, ?_⟩
      · rw [HNX.out, OwnsL, nnums_append, List.length_append]
        exact hown'
      · exact (hbe.alloc hbe.size _).grown hgrow (by simp; omega) (fun j hj => (World.ownsRow.lt hown j hj).1)
    case measure => have := HLT.out; simp [intOf]; omega
end Go.Proofs.Ytlfghnngbljlhaa
