/-
  Several texts, joined: OPm, RoKit, ZMath, ZSheet, ZKit, ORef.
-/
import Derived.Test.YtbbpbcmpemmgjaaJn18
import Derived.Deep.QuietTactic
import Derived.BigQuiet
import Derived.OrdersHeld
import Derived.Test.YtbbpbcmpemmgjaaJn17
import Derived.Test.YtbbpbcmpemmgjaaJn16
import Derived.Deep.OwnRows
import Derived.Lib.SmallJoins
import Derived.Laws.EntriesVeiled
import Derived.RegionTactic
import Derived.Deep.RegionHeld3
import Derived.Deep.DeepCutAuto
import Derived.Deep.Upon
import Derived.BigRegion
/-
  The document's Wrong and Back of chapter 2.
-/
namespace Go.Proofs.Ytbbpbcmpemmgjaa
open Go.RowKit PK

section
variable {ops : Array Oper} {rest : List Oper} {op : Oper} {a : Act} {w : World} {Q : Exit → Act → World → Prop}
end
theorem run_slice_perm (b k : Nat) (hk : k ≤ 26) (W : World) : (Instr.sliceAt 25 (.pointer (some ⟨b, 0, none⟩)) none (some (.int .i64 (k : Int))) none).run Try.prog W = .ok (.slice (some ⟨b, 0, none⟩) k 26) W := by
  have ha : Try.prog.arrayLen 25 = 26 := by kernel_rfl
  have he : Try.prog.elem 25 = 3 := by kernel_rfl
  have h1 := run_sliceAt_array_h (P := Try.prog) W 25 ⟨b, 0, none⟩ (by rw [ha, he]; exact Try.underlying25) .i64 (k : Int) (by omega) (by rw [ha]; omega)
  rw [h1, ha, he]
  cases hq : Try.prog.info? 3 with
  | none => have := info_int; simp [hq] at this
  | some i =>
    have hs : i.size = 1 := by have := info_int; simpa [hq] using this
    simp [sizeOf, typeInfo, hq, hs, slicedAt, Addr.add_mid]
theorem rwrong_any (f : Nat → Int) (w : World) : Calls Try.prog 46 #[.agg (ints 26 f)] w fun e w' => e = .returned (.int .i64 (Pm.wrong f)) ∧ Below w.heap.size w w' := by
  go_enter Try.func46, Try.ntmps46
  go_wp2_with (refine wpList_load_row rfl 25 _ rfl w.heap.size rfl 25 (ints 26 f) (0, 0) _ (RowAt.new w _ _) Try.underlying25 rfl (by rw [ints_size]; exact info_perm) ?_)
  have hrow := RowAt.new w 25 (ints 26 f)
  have hb : Below w.heap.size w (w.alloc (.cells (ints 26 f) 25)) := (Below.refl _ _).alloc (Nat.le_refl _) _
  generalize w.alloc (.cells (ints 26 f) 25) = W at hrow hb ⊢
  go_loop [8] (fun i => ∃ k : Nat, k ≤ 26 ∧ i = .int .i64 k ∧ Hid (Pm.wrongN f k = 0)) (fun i => (26 - intOf i).toNat)
  case atStart => exact ⟨0, by omega, rfl, rfl⟩
  case round =>
    obtain ⟨k, hk, rfl, HN⟩ := hrel
    by_cases hlt : k < 26
    · have hg := run_index_ints 25 3 26 Try.underlying25 Try.underlying3 info_int f k hlt
      by_cases hr : f k < 0 ∨ 26 ≤ f k
      · have H : Hid (Pm.wrong f = 3) := by rw [Hid, Pm.wrong_stop f k HN.out (by rw [Pm.bad_range f k hr]; decide) hlt, Pm.bad_range f k hr]
        rcases hr with hr | hr
        · go_wp2
          go_ret
          exact ⟨ret_int H.out.symm, hb⟩
        · have hr0 : ¬ f k < 0 := by omega
          have hr1 : 25 < f k := by omega
          go_wp2
          go_ret
          exact ⟨ret_int H.out.symm, hb⟩
      · obtain ⟨n, hn⟩ : ∃ n : Nat, f k = n := ⟨(f k).toNat, by omega⟩
        have hn26 : n < 26 := by omega
        have hn25 : ¬ (25 < n) := by omega
        have HM : Hid (f k = n) := hn
        rw [hn] at hg
        clear hr hn
        have hsl := run_slice_perm w.heap.size k (by omega)
        go_wp2
        clear hsl
        go_loop [21] (fun i => ∃ m : Nat, m ≤ k ∧ i = .int .i64 m ∧ Hid (Pm.seen f m n = false)) (fun i => (k - intOf i).toNat)
        case atStart => exact ⟨0, by omega, rfl, rfl⟩
        case round =>
          obtain ⟨m, hm, rfl, HS⟩ := hrel
          by_cases hmk : m < k
          · have hc := hrow.cell (ints_get f (i := m) (by omega))
            have hss := Pm.seen_succ f m n
            rw [HS.out, Bool.false_or] at hss
            cases he : (f m == (n : Int))
            · rw [he] at hss
              have HSS : Hid (Pm.seen f (m + 1) n = false) := hss
              clear hss
              go_wp2
              exact ⟨⟨m + 1, by omega, by go_num, HSS⟩, by simp [intOf]; omega⟩
            · have hsk : Pm.seen f k n = true := by
                unfold Pm.seen
                simp
                exact ⟨m, hmk, eq_of_beq he⟩
              have H8 : Hid (Pm.wrong f = 8) := by
                have h8 := Pm.bad_fit f k n HM.out hn26 hsk
                rw [Hid, Pm.wrong_stop f k HN.out (by rw [h8]; decide) hlt, h8]
              clear hss hsk
              go_wp2
              go_ret
              exact ⟨ret_int H8.out.symm, hb⟩
          · have HMK : Hid (m = k) := by rw [Hid]; omega
            go_wp2
            exact ⟨⟨k + 1, by omega, by go_num, by rw [Hid, Pm.wrongN_succ f k HN.out, Pm.bad_ok f k n HM.out hn26 (by rw [← HMK.out]; exact HS.out)]⟩, by simp [intOf]; omega⟩
    · have HK : Hid (k = 26) := by rw [Hid]; omega
      go_wp2
      go_ret
      exact ⟨ret_int (Pm.wrong_end f k HN.out HK.out).symm, hb⟩
end Go.Proofs.Ytbbpbcmpemmgjaa

/-
  A machine at work: its cells; the way back through its wheels.
-/
namespace Go.Proofs.Ytbbpbcmpemmgjaa
open Go.RowKit PK

namespace Om
open Pm
/-- Back through the first k wheels from the first one on. -/
def bk (M : Ma) (at' : Nat → Nat) : Nat → Nat → Nat
  | 0, c => c
  | k + 1, c => wheel (inv (M.wi k)) (by' M at' k) (bk M at' k c)
theorem wheel_lt (p : Nat → Nat) (b c : Nat) : wheel p b c < 26 := Nat.mod_lt _ (by decide)
theorem bk_lt {M : Ma} (at' : Nat → Nat) {c : Nat} (hc : c < 26) : ∀ k, bk M at' k c < 26
  | 0 => hc
  | _ + 1 => wheel_lt _ _ _
theorem through_lt {M : Ma} (at' : Nat → Nat) {c : Nat} (hc : c < 26) : ∀ k, through M at' k c < 26
  | 0 => hc
  | _ + 1 => wheel_lt _ _ _
theorem wheel_inv {p : Nat → Nat} (hp : IsPerm p) {b c : Nat} (hb : b < 26) (hc : c < 26) : wheel p b (wheel (inv p) b c) = c := by
  have h1 := hp.inv_spec ((c + b) % 26) (Nat.mod_lt _ (by decide))
  unfold wheel
  have e : ((inv p ((c + b) % 26) + 26 - b) % 26 + b) % 26 = inv p ((c + b) % 26) := by
    have := h1.1
    omega
  rw [e, h1.2]
  omega
theorem through_bk {M : Ma} (h : Ok M) (at' : Nat → Nat) {c : Nat} (hc : c < 26) : ∀ k, k ≤ M.n → through M at' k (bk M at' M.n c) = bk M at' (M.n - k) c
  | 0, _ => rfl
  | k + 1, hk => by
    show wheel (M.wi (M.n - 1 - k)) (by' M at' (M.n - 1 - k)) (through M at' k (bk M at' M.n c)) = _
    rw [through_bk h at' hc k (by omega), show M.n - k = (M.n - 1 - k) + 1 by omega, show M.n - (k + 1) = M.n - 1 - k by omega]
    exact wheel_inv (h.wi _ (by omega)) (by_lt _ _ _) (bk_lt at' hc _)
theorem now_eq {M : Ma} (h : Ok M) (at' : Nat → Nat) {c : Nat} (hc : c < 26) : now M at' c = M.pl (bk M at' M.n (M.rf (through M at' M.n (M.pl c)))) := by
  have hp := there_perm h at'
  have h1 : there M at' c < 26 := hp.1 c hc
  have h2 := h.rf.1 _ h1
  have h3 := bk_lt (M := M) at' h2 M.n
  unfold now
  refine inv_unique hp (h.pl.1 _ h3) ?_
  show through M at' M.n (M.pl (M.pl (bk M at' M.n (M.rf (there M at' c))))) = M.rf (there M at' c)
  rw [h.pl2 _ h3, through_bk h at' h2 M.n (Nat.le_refl _), Nat.sub_self]
  rfl
/-- Windows on the way: those from k on have turned. -/
def mid (M : Ma) (at' : Nat → Nat) (k : Nat) : Nat → Nat := fun i => if k ≤ i then step M at' i else at' i
theorem mid_now (M : Ma) (at' : Nat → Nat) {k i : Nat} (h : i < k) : mid M at' k i = at' i := if_neg (by omega)
theorem mid_turn {M : Ma} {at' : Nat → Nat} {k : Nat} (h : turns M at' k = true) : upd (mid M at' (k + 1)) k ((at' k + 1) % 26) = mid M at' k := by
  funext i
  unfold upd mid
  by_cases e : i = k
  · subst e
    rw [if_pos rfl, if_pos (Nat.le_refl _)]
    unfold step
    rw [if_pos h]
  · rw [if_neg e]
    by_cases e2 : k ≤ i
    · rw [if_pos e2, if_pos (by omega)]
    · rw [if_neg e2, if_neg (by omega)]
theorem mid_stay {M : Ma} {at' : Nat → Nat} {k : Nat} (h : turns M at' k = false) : mid M at' (k + 1) = mid M at' k := by
  funext i
  unfold mid
  by_cases e : i = k
  · subst e
    rw [if_neg (by omega), if_pos (Nat.le_refl _)]
    unfold step
    rw [h]
    rfl
  · by_cases e2 : k ≤ i
    · rw [if_pos e2, if_pos (by omega)]
    · rw [if_neg e2, if_neg (by omega)]
theorem mid_all (M : Ma) (at' : Nat → Nat) : mid M at' 0 = step M at' := by
  funext i
  unfold mid
  rw [if_pos (Nat.zero_le _)]
/-- What is carried to wheel k. -/
def car (M : Ma) (at' : Nat → Nat) (k : Nat) : Bool := k == M.n || (M.no k).contains (at' k)
theorem turns_car (M : Ma) (at' : Nat → Nat) (k : Nat) : turns M at' k = (car M at' (k + 1) || (decide (0 < k) && (M.no k).contains (at' k))) := rfl
theorem car_top (M : Ma) (at' : Nat → Nat) : car M at' M.n = true := by simp [car]
theorem car_in {M : Ma} (at' : Nat → Nat) {k : Nat} (h : k < M.n) : car M at' k = (M.no k).contains (at' k) := by
  unfold car
  rw [show (k == M.n) = false from beq_false_of_ne (by omega)]
  rfl
end Om

/-- The cells of a wheel that turns. -/
def wcl (p b : Nat → Nat) (no : Nat → Bool) (ri at' : Nat) (r : Nat) : Value :=
  if r < 26 then .int .i64 (p r : Nat) else if r < 52 then .int .i64 (b (r - 26) : Nat) else if r < 78 then .bool (no (r - 52)) else if r = 78 then .int .i64 (ri : Nat) else .int .i64 (at' : Nat)
def wlA (p b : Nat → Nat) (no : Nat → Bool) (ri at' : Nat) : Array Value := tab 80 (wcl p b no ri at')
theorem wlA_size (p b : Nat → Nat) (no : Nat → Bool) (ri at' : Nat) : (wlA p b no ri at').size = 80 := tab_size _ _
theorem wlA_one (p b : Nat → Nat) (no : Nat → Bool) (ri at' : Nat) : (wlA p b no ri at').all (·.oneCell') = true := by
  rw [Array.all_eq_true_iff_forall_mem]
  intro v hv
  simp [wlA, tab] at hv
  obtain ⟨i, _, rfl⟩ := hv
  unfold wcl
  split
  · rfl
  split
  · rfl
  split
  · rfl
  split <;> rfl
theorem wlA_no (p b : Nat → Nat) (no : Nat → Bool) (ri at' : Nat) {k : Nat} (hk : k < 26) : (wlA p b no ri at').setIfInBounds (52 + k) (.bool true) = wlA p b (upd no k true) ri at' := by
  unfold wlA
  rw [tab_set]
  refine tab_ext fun i hi => ?_
  by_cases e : i = 52 + k
  · subst e
    rw [upd_same]
    unfold wcl
    rw [if_neg (by omega), if_neg (by omega), if_pos (by omega), show 52 + k - 52 = k by omega, upd_same]
  · rw [upd_other _ _ e]
    unfold wcl
    by_cases h : 52 ≤ i ∧ i < 78
    · rw [if_neg (by omega), if_neg (by omega), if_pos h.2, if_neg (by omega), if_neg (by omega), if_pos h.2, upd_other _ _ (by omega)]
    · split
      · rfl
      split
      · rfl
      have h78 : ¬ i < 78 := by omega
      rw [if_neg h78, if_neg h78]
/-- The cells of a machine at work, m wheels of which are laid. -/
def rotC (M : Om.Ma) (at' : Nat → Nat) (m : Nat) (i : Nat) : Value :=
  if i < 320 then (if i / 80 < m then wcl (M.wi (i / 80)) (Pm.inv (M.wi (i / 80))) (fun c => (M.no (i / 80)).contains c) (M.ri (i / 80)) (at' (i / 80)) (i % 80) else wcl (fun _ => 0) (fun _ => 0) (fun _ => false) 0 0 (i % 80))
  else if i = 320 then .int .i64 (M.n : Nat) else if i < 347 then .int .i64 (M.rf (i - 321) : Nat) else .int .i64 (M.pl (i - 347) : Nat)
def rotA (M : Om.Ma) (at' : Nat → Nat) (m : Nat) : Array Value := tab 373 (rotC M at' m)
theorem rotA_size (M : Om.Ma) (at' : Nat → Nat) (m : Nat) : (rotA M at' m).size = 373 := tab_size _ _
section
variable {M : Om.Ma} {at' : Nat → Nat} {m : Nat}
theorem rot_wheel {q r : Nat} (hq : q < m) (hm : m ≤ 4) (hr : r < 80) : (rotA M at' m)[q * 80 + r]? = some (wcl (M.wi q) (Pm.inv (M.wi q)) (fun c => (M.no q).contains c) (M.ri q) (at' q) r) := by
  unfold rotA
  rw [tab_get _ (by omega)]
  unfold rotC
  rw [if_pos (by omega), show (q * 80 + r) / 80 = q by omega, show (q * 80 + r) % 80 = r by omega, if_pos hq]
theorem rot_there {q c : Nat} (hq : q < m) (hm : m ≤ 4) (hc : c < 26) : (rotA M at' m)[q * 80 + c]? = some (.int .i64 (M.wi q c : Nat)) := by
  rw [rot_wheel hq hm (by omega)]; unfold wcl; rw [if_pos hc]
theorem rot_back {q c : Nat} (hq : q < m) (hm : m ≤ 4) (hc : c < 26) : (rotA M at' m)[q * 80 + 26 + c]? = some (.int .i64 (Pm.inv (M.wi q) c : Nat)) := by
  rw [Nat.add_assoc, rot_wheel hq hm (by omega)]; unfold wcl; rw [if_neg (by omega), if_pos (by omega), show 26 + c - 26 = c by omega]
theorem rot_no {q c : Nat} (hq : q < m) (hm : m ≤ 4) (hc : c < 26) : (rotA M at' m)[q * 80 + 52 + c]? = some (.bool ((M.no q).contains c)) := by
  rw [Nat.add_assoc, rot_wheel hq hm (by omega)]; unfold wcl; rw [if_neg (by omega), if_neg (by omega), if_pos (by omega), show 52 + c - 52 = c by omega]
theorem rot_ri {q : Nat} (hq : q < m) (hm : m ≤ 4) : (rotA M at' m)[q * 80 + 78]? = some (.int .i64 (M.ri q : Nat)) := by
  rw [rot_wheel hq hm (by omega)]; unfold wcl; rw [if_neg (by omega), if_neg (by omega), if_neg (by omega), if_pos rfl]
theorem rot_at {q : Nat} (hq : q < m) (hm : m ≤ 4) : (rotA M at' m)[q * 80 + 79]? = some (.int .i64 (at' q : Nat)) := by
  rw [rot_wheel hq hm (by omega)]; unfold wcl; rw [if_neg (by omega), if_neg (by omega), if_neg (by omega), if_neg (by omega)]
theorem rot_n : (rotA M at' m)[320]? = some (.int .i64 (M.n : Nat)) := by
  unfold rotA
  rw [tab_get _ (by omega)]
  unfold rotC
  rw [if_neg (by omega), if_pos rfl]
theorem rot_rf {c : Nat} (hc : c < 26) : (rotA M at' m)[321 + c]? = some (.int .i64 (M.rf c : Nat)) := by
  unfold rotA
  rw [tab_get _ (by omega)]
  unfold rotC
  rw [if_neg (by omega), if_neg (by omega), if_pos (by omega), show 321 + c - 321 = c by omega]
theorem rot_pl {c : Nat} (hc : c < 26) : (rotA M at' m)[347 + c]? = some (.int .i64 (M.pl c : Nat)) := by
  unfold rotA
  rw [tab_get _ (by omega)]
  unfold rotC
  rw [if_neg (by omega), if_neg (by omega), if_neg (by omega), show 347 + c - 347 = c by omega]
theorem rot_set {q : Nat} (hq : q < m) (v : Nat) : (rotA M at' m).setIfInBounds (q * 80 + 79) (.int .i64 (v : Nat)) = rotA M (upd at' q v) m := by
  unfold rotA
  rw [tab_set]
  refine tab_ext fun i hi => ?_
  by_cases e : i = q * 80 + 79
  · subst e
    rw [upd_same]
    unfold rotC
    rw [if_pos (by omega), show (q * 80 + 79) / 80 = q by omega, show (q * 80 + 79) % 80 = 79 by omega, if_pos hq]
    unfold wcl
    rw [if_neg (by omega), if_neg (by omega), if_neg (by omega), if_neg (by omega), upd_same]
  · rw [upd_other _ _ e]
    unfold rotC
    by_cases h1 : i < 320
    · rw [if_pos h1, if_pos h1]
      by_cases h2 : i / 80 < m
      · rw [if_pos h2, if_pos h2]
        by_cases h3 : i / 80 = q
        · have h4 : i % 80 ≠ 79 := by omega
          have h5 : i % 80 < 79 := by omega
          generalize i % 80 = r at h4 h5
          unfold wcl
          split
          · rfl
          split
          · rfl
          split
          · rfl
          rw [if_pos (by omega), if_pos (by omega)]
        · rw [upd_other _ _ h3]
      · rw [if_neg h2, if_neg h2]
    · rw [if_neg h1, if_neg h1]
end
/-- A machine at work lies in block b. -/
structure RotAt (W : World) (b : Nat) (M : Om.Ma) (at' : Nat → Nat) : Prop where
  row : RowAt W b 130 (rotA M at' M.n)
  ok : Om.Ok M
  ins : Om.In26 M at'
section
variable {w W : World} {b : Nat} {M : Om.Ma} {at' : Nat → Nat}
theorem RotAt.below (h : RotAt w b M at') (hb : Below w.heap.size w W) : RotAt W b M at' := ⟨h.row.below hb h.row.lt, h.ok, h.ins⟩
theorem RotAt.alloc (h : RotAt w b M at') (o : Obj) : RotAt (w.alloc o) b M at' := ⟨h.row.alloc o, h.ok, h.ins⟩
theorem RotAt.drew (h : RotAt w b M at') : RotAt w.drew b M at' := ⟨h.row, h.ok, h.ins⟩
theorem RotAt.there (h : RotAt w b M at') {q c : Nat} (hq : q < M.n) (hc : c < 26) : w.cell? ⟨b, q * 80 + c, none⟩ = some (.int .i64 (M.wi q c : Nat)) := h.row.cell (rot_there hq h.ok.most hc)
theorem RotAt.back (h : RotAt w b M at') {q c : Nat} (hq : q < M.n) (hc : c < 26) : w.cell? ⟨b, q * 80 + 26 + c, none⟩ = some (.int .i64 (Pm.inv (M.wi q) c : Nat)) := h.row.cell (rot_back hq h.ok.most hc)
theorem RotAt.no (h : RotAt w b M at') {q c : Nat} (hq : q < M.n) (hc : c < 26) : w.cell? ⟨b, q * 80 + 52 + c, none⟩ = some (.bool ((M.no q).contains c)) := h.row.cell (rot_no hq h.ok.most hc)
theorem RotAt.ring (h : RotAt w b M at') {q : Nat} (hq : q < M.n) : w.cell? ⟨b, q * 80 + 78, none⟩ = some (.int .i64 (M.ri q : Nat)) := h.row.cell (rot_ri hq h.ok.most)
theorem RotAt.window (h : RotAt w b M at') {q : Nat} (hq : q < M.n) : w.cell? ⟨b, q * 80 + 79, none⟩ = some (.int .i64 (at' q : Nat)) := h.row.cell (rot_at hq h.ok.most)
theorem RotAt.many (h : RotAt w b M at') : w.cell? ⟨b, 320, none⟩ = some (.int .i64 (M.n : Nat)) := h.row.cell rot_n
theorem RotAt.refl (h : RotAt w b M at') {c : Nat} (hc : c < 26) : w.cell? ⟨b, 321 + c, none⟩ = some (.int .i64 (M.rf c : Nat)) := h.row.cell (rot_rf hc)
theorem RotAt.plug (h : RotAt w b M at') {c : Nat} (hc : c < 26) : w.cell? ⟨b, 347 + c, none⟩ = some (.int .i64 (M.pl c : Nat)) := h.row.cell (rot_pl hc)
theorem RotAt.turn (h : RotAt w b M at') {q : Nat} (hq : q < M.n) {v : Nat} (hv : v < 26) : RotAt (w.setCell ⟨b, q * 80 + 79, none⟩ (.int .i64 (v : Nat))) b M (upd at' q v) := ⟨by
  have := h.row.set (q * 80 + 79) (.int .i64 (v : Nat))
  rw [rot_set hq] at this
  exact this, h.ok, fun i hi => by
    unfold upd
    by_cases e : i = q
    · rw [if_pos e]; exact hv
    · rw [if_neg e]; exact h.ins i hi⟩
end
end Go.Proofs.Ytbbpbcmpemmgjaa

/-
  Squares of letters: the mathematics.
-/
namespace Go.Proofs.Ytbbpbcmpemmgjaa.Zq
open Vg

/-- J is written as I. -/
def jI (c : UInt8) : UInt8 := if c = 74 then 73 else c
def alpha : List UInt8 := [65, 66, 67, 68, 69, 70, 71, 72, 73, 75, 76, 77, 78, 79, 80, 81, 82, 83, 84, 85, 86, 87, 88, 89, 90]
/-- Letters without J. -/
def Nj (l : List UInt8) : Prop := ∀ c ∈ l, (65 ≤ c.toNat ∧ c.toNat ≤ 90) ∧ c ≠ 74
theorem mem_alpha (c : UInt8) : c ∈ alpha ↔ (65 ≤ c.toNat ∧ c.toNat ≤ 90) ∧ c ≠ 74 := by
  have h : ∀ n : Fin 256, (UInt8.ofNat n.val) ∈ alpha ↔ (65 ≤ (UInt8.ofNat n.val).toNat ∧ (UInt8.ofNat n.val).toNat ≤ 90) ∧ (UInt8.ofNat n.val) ≠ 74 := by decide +kernel
  have := h ⟨c.toNat, c.toNat_lt⟩
  simpa using this
/-- A letter is laid behind the others, if it isn't there. -/
def addN (out : List UInt8) (c : UInt8) : List UInt8 := if c ∈ out then out else out ++ [c]
def layN (out l : List UInt8) : List UInt8 := l.foldl addN out
def laid (key : List UInt8) : List UInt8 := layN [] ((key ++ alpha).map jI)
theorem nodup_le : ∀ (a b : List UInt8), a.Nodup → (∀ x ∈ a, x ∈ b) → a.length ≤ b.length
  | [], _, _, _ => by simp
  | x :: a, b, hn, hs => by
    have hx := hs x (by simp)
    have hn' := List.nodup_cons.1 hn
    have := nodup_le a (b.erase x) hn'.2 (fun y hy => (List.mem_erase_of_ne (fun (e : y = x) => hn'.1 (by rw [← e]; exact hy))).2 (hs y (by simp [hy])))
    rw [List.length_erase_of_mem hx] at this
    have : 0 < b.length := List.length_pos_of_mem hx
    simp only [List.length_cons]
    omega
/-- Where a letter stands. -/
def at' (s : List UInt8) (c : UInt8) : Nat := s.idxOf c
/-- What two places become, and where they come from. -/
def pairP (i j : Nat) : Nat × Nat :=
  if i / 5 = j / 5 then (5 * (i / 5) + (i % 5 + 1) % 5, 5 * (j / 5) + (j % 5 + 1) % 5)
  else if i % 5 = j % 5 then (5 * ((i / 5 + 1) % 5) + i % 5, 5 * ((j / 5 + 1) % 5) + j % 5)
  else (5 * (i / 5) + j % 5, 5 * (j / 5) + i % 5)
/-- What two letters become in a square, and where they come from. -/
def enc (s : List UInt8) (a b : UInt8) : UInt8 × UInt8 := (s.getD (pairP (at' s a) (at' s b)).1 0, s.getD (pairP (at' s a) (at' s b)).2 0)
/-- Two by two. -/
def twos (f : UInt8 → UInt8 → UInt8 × UInt8) : List UInt8 → List UInt8
  | a :: b :: r => (f a b).1 :: (f a b).2 :: twos f r
  | _ => []
/-- Pairs that are pairs: an even number of letters, no J, no two alike in one. -/
inductive Good : List UInt8 → Prop
  | nil : Good []
  | two {a b : UInt8} {r : List UInt8} (ha : a ∈ alpha) (hb : b ∈ alpha) (hab : a ≠ b) (hr : Good r) : Good (a :: b :: r)
theorem Good.even {l : List UInt8} (h : Good l) : l.length % 2 = 0 := by
  induction h with
  | nil => rfl
  | two _ _ _ _ ih => simp; omega
theorem Good.nj {l : List UInt8} (h : Good l) : Nj l := by
  induction h with
  | nil => intro c hc; simp at hc
  | two ha hb _ _ ih =>
    intro c hc
    simp at hc
    rcases hc with rfl | rfl | hc
    · exact (mem_alpha _).1 ha
    · exact (mem_alpha _).1 hb
    · exact ih c hc
theorem Good.ls {l : List UInt8} (h : Good l) : Ls l := fun c hc => (h.nj c hc).1
/-- The other way round. -/
def turn : List UInt8 → List UInt8 := twos fun a b => (b, a)
/-- What is wrong with pairs that are to be read: the first J, or the second one of a pair that is as its first one. -/
def wrong (t : List UInt8) (i : Nat) : Bool := decide (t.getD i 0 = 74 ∨ (i % 2 = 1 ∧ t.getD i 0 = t.getD (i - 1) 0))
end Go.Proofs.Ytbbpbcmpemmgjaa.Zq

/-
  Squares of letters as 77 cells: the letters by their places, and the places by their letters.
-/
namespace Go.Proofs.Ytbbpbcmpemmgjaa.Zq
open Vg PK

/-- What is laid behind m letters. -/
def lay (l : List UInt8) (m : Nat) : List UInt8 := layN [] ((l.take m).map jI)
/-- Where the letter k stands: 0 where it stands nowhere. -/
def pl (L : List UInt8) (k : Nat) : Nat := if ltr k ∈ L then at' L (ltr k) else 0
/-- The first place at which something is wrong. -/
def fw (t : List UInt8) : Option Nat := (List.range t.length).find? (wrong t)
end Go.Proofs.Ytbbpbcmpemmgjaa.Zq

/-
  Laws of no program: bytes in rows, and what is made of them.
-/
namespace Go.Proofs.Ytbbpbcmpemmgjaa
open Go.RowKit PK Vg Zq

theorem ls_of {l : List UInt8} (h : Pl.Lets l) : Ls l := fun c hc => by
  have := h c hc
  simp [Pl.isL] at this
  omega
section
variable {P : Program} {ops : Array Oper} {Q : Exit → Act → World → Prop} {md : Region.Mode} {S : World → Prop}
/-- An operation that yields its value in every world that meets S is taken first. -/
theorem vtake (i d : Nat) (v : Value) {oi : Oper} {fuel : Nat} {listed : Array Bool} {tm : Array Value} {df : List Deferred} {w : World} (hi : ops[i]? = some oi) (hd : oi.dst = some d)
    (hs : Region.noSelect ops = true) (hf : Region.free md ops listed i = true) (hr : (Region.ready md ops listed).contains i = true)
    (hQ : ∀ c a a' w, Q (.panic c) a' w → Q (.panic c) a w) (hw : Region.wanted oi (yielded ops tm) = true) (hrun : ∀ W, S W → (execOp (Act.eval ⟨tm, df⟩) oi).run P W = .ok (.value v) W) (hS : S w)
    (h : wpAnyH P md ops Q S fuel (listed.setIfInBounds i true) ⟨tm.setIfInBounds d v, df⟩ w) : wpAnyH P md ops Q S (fuel + 1) listed ⟨tm, df⟩ w := by
  refine wpAnyH_take (i := i) (oi := oi) (v := v) hi hs hf hr (fun c a w => hQ c a _ w) (Or.inl ⟨hw, fun W hW => hrun W hW⟩) hS ?_
  rw [hd]
  exact h
end
theorem v_info_byte : (Try.prog.info? 5).map (fun i => (i.zero, i.size, i.bytes)) = some (some (.int .u8 0), 1, 1) := by kernel_rfl
theorem ck_of_ls {l : List UInt8} (h : Ls l) (hn : l.length ≤ 65536) : ckE l = 0 ∧ ckAt l = 0 := by
  unfold ckE ckAt
  rw [if_neg (by omega), if_neg (by omega)]
  refine chk_none l (List.findIdx?_eq_none_iff.2 fun c hc => ?_)
  have := h c hc
  simp [Pl.bad, Pl.isL]
  omega
theorem x_info_parts {P : Program} {e : TypeId} {z : Value} {s b : Nat} (h : (P.info? e).map (fun i => (i.zero, i.size, i.bytes)) = some (some z, s, b)) : ∃ i, P.info? e = some i ∧ i.zero = some z ∧ i.size = s ∧ i.bytes = b := by
  obtain ⟨i, hi, hzz⟩ := Option.map_eq_some_iff.1 h
  simp only [Prod.mk.injEq] at hzz
  exact ⟨i, hi, hzz.1, hzz.2.1, hzz.2.2⟩
theorem v_cells_byte (acc : List UInt8) (b : UInt8) : Lib.byteCells acc ++ [.int .u8 (b.toNat : Int)] = Lib.byteCells (acc ++ [b]) := by simp [Lib.byteCells]
theorem getD_size {s : ByteArray} {i : Nat} (hi : i < s.size) : i < s.data.toList.length := by have := Pl.size_len s; omega
end Go.Proofs.Ytbbpbcmpemmgjaa

/-
  Contracts of the document's inside and Notched (chapter 8).
-/
namespace Go.Proofs.Ytbbpbcmpemmgjaa
open Go.RowKit PK

theorem ins_upto {n : Nat} {f : Nat → Int} {k : Nat} (hk : k < n) (h : f k < 0 ∨ 25 < f k) : ins n f = false := by
  cases e : ins n f with
  | false => rfl
  | true => have := (ins_iff n f).1 e k hk; omega
set_option maxRecDepth 100000 in
set_option maxHeartbeats 1000000 in
theorem rinside_any (v : Value) (n : Nat) (f : Nat → Int) (w : World) (hv : NumsAt w v n f) : Calls Try.prog 47 #[v] w fun e w' => e = .returned (.bool (ins n f)) ∧ w = w' := by
  obtain ⟨a, cap, rfl, hm, hc⟩ := hv
  have HC := (show Hid _ from hc)
  unfold maxLen at hm
  clear hc
  have HU := (show Hid (∀ k, k < n → (f k < 0 ∨ 25 < f k) → ins n f = false) from fun k hk h => ins_upto hk h)
  have HA := (show Hid ((∀ i, i < n → 0 ≤ f i ∧ f i ≤ 25) → ins n f = true) from (ins_iff n f).2)
  generalize ins n f = B at *
  go_enter Try.func47, Try.ntmps47
  go_wp2_with fail
  go_loopw [7] (fun i W => ∃ k : Nat, k ≤ n ∧ i = .int .i64 (k : Nat) ∧ Hid (∀ i, i < k → 0 ≤ f i ∧ f i ≤ 25) ∧ w = W) (fun i _ => ((n : Int) - intOf i).toNat)
  case atStart => exact ⟨0, by omega, rfl, fun i hi => by omega, rfl⟩
  case round =>
    obtain ⟨k, hk, rfl, HS, rfl⟩ := hrel
    by_cases hlt : k < n
    · obtain ⟨b, o, rfl, hc0⟩ := HC.out k hlt
      have HLT : Hid (k < n) := hlt
      by_cases hx : f k < 0
      · have HB : Hid (B = false) := HU.out k hlt (.inl hx)
        go_wp2
        go_ret
        exact ⟨by rw [HB.out]; rfl, rfl⟩
      · by_cases hy : 25 < f k
        · have HB : Hid (B = false) := HU.out k hlt (.inr hy)
          go_wp2
          go_ret
          exact ⟨by rw [HB.out]; rfl, rfl⟩
        · have HN : Hid (∀ i, i < k + 1 → 0 ≤ f i ∧ f i ≤ 25) := fun i hi => by
            by_cases e : i = k
            · rw [e]; omega
            · exact HS.out i (by omega)
          go_wp2_with fail
          go_roundw
          case rel => exact ⟨k + 1, HLT.out, by go_num, HN.out, by first | rfl | trivial⟩
          case measure => have := HLT.out; simp [intOf] <;> omega
    · obtain rfl : k = n := by omega
      have hlt2 : ¬ (k : Int) < (k : Int) := by omega
      have HB : Hid (B = true) := HA.out HS.out
      go_wp2
      go_ret
      exact ⟨by rw [HB.out]; rfl, rfl⟩
end Go.Proofs.Ytbbpbcmpemmgjaa
