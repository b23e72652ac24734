/-
  Contract of square.sheet.unwritten.
-/
import Derived.Test.YtmabamlhhmjbaadZSh
import Derived.Deep.QuietTactic
import Derived.BigRegion
import Derived.Test.YtmabamlhhmjbaadPEq
namespace Go.Proofs.Ytmabamlhhmjbaad
open Go.RowKit PK Vg Zq

/-- What is wrong with pairs that are to be read. -/
def unE (t : List UInt8) : Int := if t.length % 2 = 1 then 8 else match fw t with | some _ => 8 | none => 0
def unAt (t : List UInt8) : Int := if t.length % 2 = 1 then t.length else match fw t with | some k => k | none => 0
theorem un_odd {t : List UInt8} (h : t.length % 2 = 1) : unE t = 8 ∧ unAt t = t.length := by unfold unE unAt; rw [if_pos h, if_pos h]; exact ⟨rfl, rfl⟩
theorem un_some {t : List UInt8} {k : Nat} (h : t.length % 2 = 0) (hf : fw t = some k) : unE t = 8 ∧ unAt t = k := by unfold unE unAt; rw [if_neg (by omega), if_neg (by omega), hf]; exact ⟨rfl, rfl⟩
theorem un_none {t : List UInt8} (h : t.length % 2 = 0) (hf : fw t = none) : unE t = 0 ∧ unAt t = 0 := by unfold unE unAt; rw [if_neg (by omega), if_neg (by omega), hf]; exact ⟨rfl, rfl⟩
set_option maxRecDepth 100000 in
set_option maxHeartbeats 4000000 in
theorem unw_odd (L : List UInt8) (t : ByteArray) (h : t.size % 2 = 1) (hs : t.size ≤ 65536) (w : World) : Calls Try.prog 44 #[.agg (shV L), .string t] w fun e w' => e = .returned (.agg #[.int .i64 8, .int .i64 (t.size : Nat)]) ∧ Below w.heap.size w w' := by
  have h1 : (((t.size : Int) % 2) != 0) = true := by simp; omega
  have h2 : ((t.size : Int) % 2) = 1 := by omega
  go_enter Try.func44, Try.ntmps44
  go_wp2
  exact bodyPost_ret (v := .agg #[.int .i64 8, .int .i64 (t.size : Nat)]) (by simp [results, Try.results44, go_sem]) rfl ⟨rfl, ((Below.refl _ _).alloc (Nat.le_refl _) _).alloc (by simp) _⟩
theorem number_same (c : UInt8) (h : 65 ≤ c.toNat ∧ c.toNat ≤ 90) (w : World) : Calls Try.prog 50 #[.int .u8 c.toNat] w fun e w' => e = .returned (.int .i64 (num c : Nat)) ∧ w' = w := (number_any c h w).mono fun _ _ ⟨a, b⟩ => ⟨a, b.symm⟩
theorem pl_ne {L : List UInt8} (hL : Sq L) {x y : UInt8} (hx : x ∈ L) (hy : y ∈ L) (h : x ≠ y) : ¬ (pl L (num x) / 5 = pl L (num y) / 5 ∧ pl L (num x) % 5 = pl L (num y) % 5) := fun ⟨a, b⟩ => h (by
  rw [pl_at hL hx, pl_at hL hy] at a b
  exact at_inj hx hy (by omega))
theorem sh_row' (L : List UInt8) {k : Nat} (h : k < 26) : (shV L)[25 + k * 2]? = some (.int .i64 (pl L k / 5 : Nat)) := by rw [Nat.mul_comm]; exact shV_row L h
theorem sh_col' (L : List UInt8) {k : Nat} (h : k < 26) : (shV L)[25 + k * 2 + 1]? = some (.int .i64 (pl L k % 5 : Nat)) := by rw [Nat.mul_comm]; exact shV_col L h
theorem below_draws {B : Nat} {a w : World} (h : Below B a w) (n : Nat) : Below B a (w.drewN n) := h.trans ⟨rfl, rfl, rfl, Nat.le_refl _, fun _ _ => rfl⟩
/-- The variables of the call. -/
structure UnAt (w W : World) (L : List UInt8) : Prop where
  sheet : RowAt W w.heap.size 66 (shV L)
  res : RowAt W (w.heap.size + 1) 25 #[.int .i64 0, .int .i64 0]
  below : Below w.heap.size w W
theorem UnAt.new (w : World) (L : List UInt8) : UnAt w ((w.alloc (.cells (shV L) 66)).alloc (.cells #[.int .i64 0, .int .i64 0] 25)) L := by
  have := RowAt.new (w.alloc (.cells (shV L) 66)) 25 #[.int .i64 0, .int .i64 0]
  rw [World.size_alloc] at this
  exact ⟨(RowAt.new w _ _).alloc _, this, ((Below.refl _ w).alloc (Nat.le_refl _) _).alloc (by simp) _⟩
theorem UnAt.draws {w W : World} {L : List UInt8} (h : UnAt w W L) (n : Nat) : UnAt w (W.drewN n) L := ⟨h.sheet, h.res, below_draws h.below n⟩
theorem UnAt.done {w W : World} {L : List UInt8} (h : UnAt w W L) (x y : Value) : Below w.heap.size w ((W.setCell ⟨w.heap.size + 1, 0, none⟩ x).setCell ⟨w.heap.size + 1, 1, none⟩ y) :=
  (h.below.setCell (p := ⟨w.heap.size + 1, 0, none⟩) (by simp) _).setCell (p := ⟨w.heap.size + 1, 1, none⟩) (by simp) _
theorem v_size_int : (Try.prog.info? 3).map (·.size) = some 1 := by kernel_rfl
theorem eq_place (a b c d : Int) (W : World) : (Op.equalIn 10000 63 (.agg #[.int .i64 a, .int .i64 b]) (.agg #[.int .i64 c, .int .i64 d])).run Try.prog W = .ok ((a == c) && (b == d)) W := by
  have h := run_equalIn_ints (P := Try.prog) W 9998 63 3 2 Try.underlying63 Try.underlying3 v_size_int (fun i => if i = 0 then a else b) (fun i => if i = 0 then c else d)
  have e : eqI 2 (fun i => if i = 0 then a else b) (fun i => if i = 0 then c else d) = ((a == c) && (b == d)) := by
    unfold eqI
    rw [show List.range 2 = [0, 1] from rfl]
    simp
  rw [e] at h
  exact h
theorem wrong_iff (t : List UInt8) (i : Nat) : wrong t i = true ↔ (t.getD i 0 = 74 ∨ (i % 2 = 1 ∧ t.getD i 0 = t.getD (i - 1) 0)) := by unfold wrong; simp
set_option maxRecDepth 100000 in
set_option maxHeartbeats 4000000 in
theorem unw_even (L : List UInt8) (hL : Sq L) (t : ByteArray) (h : t.size % 2 = 0) (hs : t.size ≤ 65536) (ht : Ls t.data.toList) (w : World) : Calls Try.prog 44 #[.agg (shV L), .string t] w fun e w' => e = .returned (.agg #[.int .i64 (unE t.data.toList), .int .i64 (unAt t.data.toList)]) ∧ Below w.heap.size w w' := by
  have h1 : (((t.size : Int) % 2) != 0) = false := by simp; omega
  have h2 : ((t.size : Int) % 2) = 0 := by omega
  have heqp := eq_place
  have HE : Hid (t.data.toList.length % 2 = 0) := by rw [Hid, ← Pl.size_len]; exact h
  go_enter Try.func44, Try.ntmps44
  go_wp2_with fail
  clear h1 h2 h
  go_loopw [15] (fun i W => ∃ k : Nat, k ≤ t.size ∧ i = .int .i64 (k : Nat) ∧ Hid (∀ j, j < k → wrong t.data.toList j = false) ∧ UnAt w W L) (fun i _ => ((t.size : Int) - intOf i).toNat)
  case atStart => exact ⟨0, by omega, rfl, fun j hj => by omega, UnAt.new w L⟩
  case round =>
    obtain ⟨k, hk, rfl, HA, hu⟩ := hrel
    have r0 := hu.res.cell (i := 0) rfl
    have r1 := hu.res.cell (i := 1) rfl
    have f0 := hu.res.frozen 0
    have f1 := hu.res.frozen 1
    by_cases hlt : k < t.size
    · have hlt2 : (k : Int) < (t.size : Int) := by omega
      have hxl := ht.at (getD_size hlt)
      have hix := (getD_byte t k hlt).symm
      by_cases hJ : t.data.toList.getD k 0 = 74
      · have HU : Hid (fw t.data.toList = some k) := fw_some (getD_size hlt) ((wrong_iff _ _).2 (.inl hJ)) HA.out
        have HU2 := un_some HE.out HU.out
        have HU3 : Hid (unE t.data.toList = 8 ∧ unAt t.data.toList = k) := HU2
        rw [hJ] at hix
        clear HU2 hJ hxl
        go_upto_region 6 with fail
        go_quiet (fail)
        go_wp2
        have q := Kit.read_two (W := wr.drewN nq) (.int .i64 8) (.int .i64 (k : Nat)) r0 r1
        refine bodyPost_ret (v := .agg #[.int .i64 8, .int .i64 (k : Nat)]) (by simp [results, Try.results44, go_sem, q.1, q.2]) rfl ⟨by rw [HU3.out.1, HU3.out.2], ?_⟩
        exact (hu.draws _).done _ _
      · have hJ2 : (((t.data.toList.getD k 0).toNat : Int) == 74) = false := by have := u8_eq (c := t.data.toList.getD k 0) (n := 74) (by omega); rw [show ((74 : Nat) : Int) = 74 from rfl] at this; rw [this]; simpa using hJ
        by_cases hodd : k % 2 = 1
        · obtain ⟨j, rfl⟩ : ∃ j, k = j + 1 := ⟨k - 1, by omega⟩
          have hjlt : j < t.size := by omega
          have hb1 : (0 : Int) ≤ (j : Int) + 1 := by omega
          have hb2 : (j : Int) + 1 < (t.size : Int) := by omega
          have hb3 : ¬ ((j : Int) + 1 < 0) := by omega
          have hjlt2 : (j : Int) < (t.size : Int) := by omega
          have hyl := ht.at (getD_size hjlt)
          have hiy := (getD_byte t j hjlt).symm
          have hyJ : t.data.toList.getD j 0 ≠ 74 := fun e => by
            have := HA.out j (by omega)
            rw [(wrong_iff _ _).2 (.inl e)] at this
            cases this
          have hxm : t.data.toList.getD (j + 1) 0 ∈ L := (hL.mem _).2 ((mem_alpha _).2 ⟨hxl, hJ⟩)
          have hym : t.data.toList.getD j 0 ∈ L := (hL.mem _).2 ((mem_alpha _).2 ⟨hyl, hyJ⟩)
          have hnx := num_lt hxl
          have hny := num_lt hyl
          have hnx2 : ((num (t.data.toList.getD (j + 1) 0) : Nat) : Int) < 26 := by omega
          have hny2 : ((num (t.data.toList.getD j 0) : Nat) : Int) < 26 := by omega
          have hr := hu.sheet
          have c0 := hr.cell (sh_row' L hnx)
          have c1 := hr.cell (sh_col' L hnx)
          have c2 := hr.cell (sh_row' L hny)
          have c3 := hr.cell (sh_col' L hny)
          have ho2 : (((j : Int) + 1) % 2 == 1) = true := by simp; omega
          have ho4 : (((j : Int) + 1).tmod 2 == 1) = true := by rw [Int.tmod_eq_emod_of_nonneg (by omega)]; exact ho2
          have hwj : IntKind.i64.wrap (j : Int) = (j : Int) := IntWalk.i64_in _ (by omega)
          by_cases hxy : t.data.toList.getD (j + 1) 0 = t.data.toList.getD j 0
          · have HU : Hid (fw t.data.toList = some (j + 1)) := fw_some (getD_size hlt) ((wrong_iff _ _).2 (.inr ⟨hodd, hxy⟩)) HA.out
            have HU3 : Hid (unE t.data.toList = 8 ∧ unAt t.data.toList = (j + 1 : Nat)) := un_some HE.out HU.out
            rw [hxy] at hix hxl hnx hnx2 c0 c1 hJ2
            generalize t.data.toList.getD j 0 = y at *
            clear hxy hxm hym hJ hyJ hodd HA hr
            go_upto_region 6 with fail
            go_quiet (refine Calls.quiet_of_same (number_same _ hyl _))
            go_wp2
            have q := Kit.read_two (W := wr.drewN nq) (.int .i64 8) (.int .i64 ((j : Int) + 1)) r0 r1
            refine bodyPost_ret (v := .agg #[.int .i64 8, .int .i64 (j + 1 : Nat)]) (by simp [results, Try.results44, go_sem, q.1, q.2]) rfl ⟨by rw [HU3.out.1, HU3.out.2], ?_⟩
            exact (hu.draws _).done _ _
          · have HN : Hid (∀ i, i < j + 1 + 1 → wrong t.data.toList i = false) := fun i hi => by
              by_cases hi2 : i = j + 1
              · subst hi2
                cases hw : wrong t.data.toList (j + 1)
                · rfl
                · rcases (wrong_iff _ _).1 hw with e | e
                  · exact absurd e hJ
                  · exact absurd e.2 hxy
              · exact HA.out i (by omega)
            have hpn := pl_ne hL hxm hym hxy
            generalize t.data.toList.getD j 0 = y at *
            generalize t.data.toList.getD (j + 1) 0 = x at *
            clear hxy hxm hym hJ hyJ hodd HA hr
            have hpn2 : (pl L (num x) / 5 = pl L (num y) / 5) → ¬ (pl L (num x) % 5 = pl L (num y) % 5) := fun a b => hpn ⟨a, b⟩
            clear hpn
            generalize pl L (num x) = X at *
            generalize pl L (num y) = Y at *
            by_cases hq : X / 5 = Y / 5
            · have hq1 : (((X : Int) / 5) == ((Y : Int) / 5)) = true := by simp; omega
              have hq2 : (((X : Int) % 5) == ((Y : Int) % 5)) = false := beq_false_of_ne (by have := hpn2 hq; omega)
              go_upto_region 6 with fail
              go_quiet (refine Calls.quiet_of_same (number_same _ (by first | exact hxl | exact hyl) _))
              go_wp2
              go_roundw
              case rel => exact ⟨j + 1 + 1, by omega, by go_num, HN.out, hu.draws _⟩
              case measure => simp [intOf]; omega
            · have hq1 : (((X : Int) / 5) == ((Y : Int) / 5)) = false := beq_false_of_ne (by omega)
              go_upto_region 6 with fail
              go_quiet (refine Calls.quiet_of_same (number_same _ (by first | exact hxl | exact hyl) _))
              go_wp2
              go_roundw
              case rel => exact ⟨j + 1 + 1, by omega, by go_num, HN.out, hu.draws _⟩
              case measure => simp [intOf]; omega
        · have HN : Hid (∀ i, i < k + 1 → wrong t.data.toList i = false) := fun i hi => by
            by_cases hi2 : i = k
            · subst hi2
              cases hw : wrong t.data.toList i
              · rfl
              · rcases (wrong_iff _ _).1 hw with e | e
                · exact absurd e hJ
                · exact absurd e.1 hodd
            · exact HA.out i (by omega)
          have ho2 : ((k : Int) % 2 == 1) = false := beq_false_of_ne (by omega)
          have ho4 : ((k : Int).tmod 2 == 1) = false := by rw [Int.tmod_eq_emod_of_nonneg (by omega)]; exact ho2
          generalize t.data.toList.getD k 0 = x at *
          clear hJ HA
          go_upto_region 6 with fail
          go_quiet (fail)
          go_wp2
          go_roundw
          case rel => exact ⟨k + 1, by omega, by go_num, HN.out, hu.draws _⟩
          case measure => simp [intOf]; omega
    · have HU : Hid (fw t.data.toList = none) := fw_none fun j hj => HA.out j (by have := Pl.size_len t; omega)
      have HU3 : Hid (unE t.data.toList = 0 ∧ unAt t.data.toList = 0) := un_none HE.out HU.out
      go_wp2
      have q := Kit.read_two (.int .i64 0) (.int .i64 0) r0 r1
      refine bodyPost_ret (v := .agg #[.int .i64 0, .int .i64 0]) (by simp [results, Try.results44, go_sem, q.1, q.2]) rfl ⟨by rw [HU3.out.1, HU3.out.2], ?_⟩
      exact hu.done _ _
end Go.Proofs.Ytmabamlhhmjbaad
