/-
  A machine at work: its cells; the way back through its wheels.
-/
import Derived.Test.YtigamiehnjipcaaJn3
import Derived.Test.YtigamiehnjipcaaOPm
namespace Go.Proofs.Ytigamiehnjipcaa
open Go.RowKit PK

namespace Om
open Pm
/-- Back through the first k wheels from the first one on. -/
def bk (M : Ma) (at' : Nat → Nat) : Nat → Nat → Nat
  | 0, c => c
  | k + 1, c => wheel (inv (M.wi k)) (by' M at' k) (bk M at' k c)
theorem wheel_lt (p : Nat → Nat) (b c : Nat) : wheel p b c < 26 := Nat.mod_lt _ (by decide)
theorem bk_lt {M : Ma} (at' : Nat → Nat) {c : Nat} (hc : c < 26) : ∀ k, bk M at' k c < 26
  | 0 => hc
  | _ + 1 => wheel_lt _ _ _
theorem through_lt {M : Ma} (at' : Nat → Nat) {c : Nat} (hc : c < 26) : ∀ k, through M at' k c < 26
  | 0 => hc
  | _ + 1 => wheel_lt _ _ _
theorem wheel_inv {p : Nat → Nat} (hp : IsPerm p) {b c : Nat} (hb : b < 26) (hc : c < 26) : wheel p b (wheel (inv p) b c) = c := by
  have h1 := hp.inv_spec ((c + b) % 26) (Nat.mod_lt _ (by decide))
  unfold wheel
  have e : ((inv p ((c + b) % 26) + 26 - b) % 26 + b) % 26 = inv p ((c + b) % 26) := by
    have := h1.1
    omega
  rw [e, h1.2]
  omega
theorem through_bk {M : Ma} (h : Ok M) (at' : Nat → Nat) {c : Nat} (hc : c < 26) : ∀ k, k ≤ M.n → through M at' k (bk M at' M.n c) = bk M at' (M.n - k) c
  | 0, _ => rfl
  | k + 1, hk => by
    show wheel (M.wi (M.n - 1 - k)) (by' M at' (M.n - 1 - k)) (through M at' k (bk M at' M.n c)) = _
    rw [through_bk h at' hc k (by omega), show M.n - k = (M.n - 1 - k) + 1 by omega, show M.n - (k + 1) = M.n - 1 - k by omega]
    exact wheel_inv (h.wi _ (by omega)) (by_lt _ _ _) (bk_lt at' hc _)
theorem now_eq {M : Ma} (h : Ok M) (at' : Nat → Nat) {c : Nat} (hc : c < 26) : now M at' c = M.pl (bk M at' M.n (M.rf (through M at' M.n (M.pl c)))) := by
  have hp := there_perm h at'
  have h1 : there M at' c < 26 := hp.1 c hc
  have h2 := h.rf.1 _ h1
  have h3 := bk_lt (M := M) at' h2 M.n
  unfold now
  refine inv_unique hp (h.pl.1 _ h3) ?_
  show through M at' M.n (M.pl (M.pl (bk M at' M.n (M.rf (there M at' c))))) = M.rf (there M at' c)
  rw [h.pl2 _ h3, through_bk h at' h2 M.n (Nat.le_refl _), Nat.sub_self]
  rfl
/-- Windows on the way: those from k on have turned. -/
def mid (M : Ma) (at' : Nat → Nat) (k : Nat) : Nat → Nat := fun i => if k ≤ i then step M at' i else at' i
theorem mid_now (M : Ma) (at' : Nat → Nat) {k i : Nat} (h : i < k) : mid M at' k i = at' i := if_neg (by omega)
theorem mid_turn {M : Ma} {at' : Nat → Nat} {k : Nat} (h : turns M at' k = true) : upd (mid M at' (k + 1)) k ((at' k + 1) % 26) = mid M at' k := by
  funext i
  unfold upd mid
  by_cases e : i = k
  · subst e
    rw [if_pos rfl, if_pos (Nat.le_refl _)]
    unfold step
    rw [if_pos h]
  · rw [if_neg e]
    by_cases e2 : k ≤ i
    · rw [if_pos e2, if_pos (by omega)]
    · rw [if_neg e2, if_neg (by omega)]
theorem mid_stay {M : Ma} {at' : Nat → Nat} {k : Nat} (h : turns M at' k = false) : mid M at' (k + 1) = mid M at' k := by
  funext i
  unfold mid
  by_cases e : i = k
  · subst e
    rw [if_neg (by omega), if_pos (Nat.le_refl _)]
    unfold step
    rw [h]
    rfl
  · by_cases e2 : k ≤ i
    · rw [if_pos e2, if_pos (by omega)]
    · rw [if_neg e2, if_neg (by omega)]
theorem mid_all (M : Ma) (at' : Nat → Nat) : mid M at' 0 = step M at' := by
  funext i
  unfold mid
  rw [if_pos (Nat.zero_le _)]
/-- What is carried to wheel k. -/
def car (M : Ma) (at' : Nat → Nat) (k : Nat) : Bool := k == M.n || (M.no k).contains (at' k)
theorem turns_car (M : Ma) (at' : Nat → Nat) (k : Nat) : turns M at' k = (car M at' (k + 1) || (decide (0 < k) && (M.no k).contains (at' k))) := rfl
theorem car_top (M : Ma) (at' : Nat → Nat) : car M at' M.n = true := by simp [car]
theorem car_in {M : Ma} (at' : Nat → Nat) {k : Nat} (h : k < M.n) : car M at' k = (M.no k).contains (at' k) := by
  unfold car
  rw [show (k == M.n) = false from beq_false_of_ne (by omega)]
  rfl
end Om

/-- The cells of a wheel that turns. -/
def wcl (p b : Nat → Nat) (no : Nat → Bool) (ri at' : Nat) (r : Nat) : Value :=
  if r < 26 then .int .i64 (p r : Nat) else if r < 52 then .int .i64 (b (r - 26) : Nat) else if r < 78 then .bool (no (r - 52)) else if r = 78 then .int .i64 (ri : Nat) else .int .i64 (at' : Nat)
def wlA (p b : Nat → Nat) (no : Nat → Bool) (ri at' : Nat) : Array Value := tab 80 (wcl p b no ri at')
theorem wlA_size (p b : Nat → Nat) (no : Nat → Bool) (ri at' : Nat) : (wlA p b no ri at').size = 80 := tab_size _ _
theorem wlA_one (p b : Nat → Nat) (no : Nat → Bool) (ri at' : Nat) : (wlA p b no ri at').all (·.oneCell') = true := by
  rw [Array.all_eq_true_iff_forall_mem]
  intro v hv
  simp [wlA, tab] at hv
  obtain ⟨i, _, rfl⟩ := hv
  unfold wcl
  split
  · rfl
  split
  · rfl
  split
  · rfl
  split <;> rfl
theorem wlA_no (p b : Nat → Nat) (no : Nat → Bool) (ri at' : Nat) {k : Nat} (hk : k < 26) : (wlA p b no ri at').setIfInBounds (52 + k) (.bool true) = wlA p b (upd no k true) ri at' := by
  unfold wlA
  rw [tab_set]
  refine tab_ext fun i hi => ?_
  by_cases e : i = 52 + k
  · subst e
    rw [upd_same]
    unfold wcl
    rw [if_neg (by omega), if_neg (by omega), if_pos (by omega), show 52 + k - 52 = k by omega, upd_same]
  · rw [upd_other _ _ e]
    unfold wcl
    by_cases h : 52 ≤ i ∧ i < 78
    · rw [if_neg (by omega), if_neg (by omega), if_pos h.2, if_neg (by omega), if_neg (by omega), if_pos h.2, upd_other _ _ (by omega)]
    · split
      · rfl
      split
      · rfl
      have h78 : ¬ i < 78 := by omega
      rw [if_neg h78, if_neg h78]
theorem wlA_ext {p p2 b b2 : Nat → Nat} {no no2 : Nat → Bool} {ri at' : Nat} (h1 : ∀ i, i < 26 → p i = p2 i) (h2 : ∀ i, i < 26 → b i = b2 i) (h3 : ∀ i, i < 26 → no i = no2 i) : wlA p b no ri at' = wlA p2 b2 no2 ri at' := by
  refine tab_ext fun i _ => ?_
  unfold wcl
  by_cases e1 : i < 26
  · rw [if_pos e1, if_pos e1, h1 i e1]
  rw [if_neg e1, if_neg e1]
  by_cases e2 : i < 52
  · rw [if_pos e2, if_pos e2, h2 _ (by omega)]
  rw [if_neg e2, if_neg e2]
  by_cases e3 : i < 78
  · rw [if_pos e3, if_pos e3, h3 _ (by omega)]
  rw [if_neg e3, if_neg e3]
/-- The cells of a machine at work, m wheels of which are laid. -/
def rotC (M : Om.Ma) (at' : Nat → Nat) (m : Nat) (i : Nat) : Value :=
  if i < 320 then (if i / 80 < m then wcl (M.wi (i / 80)) (Pm.inv (M.wi (i / 80))) (fun c => (M.no (i / 80)).contains c) (M.ri (i / 80)) (at' (i / 80)) (i % 80) else wcl (fun _ => 0) (fun _ => 0) (fun _ => false) 0 0 (i % 80))
  else if i = 320 then .int .i64 (M.n : Nat) else if i < 347 then .int .i64 (M.rf (i - 321) : Nat) else .int .i64 (M.pl (i - 347) : Nat)
def rotA (M : Om.Ma) (at' : Nat → Nat) (m : Nat) : Array Value := tab 373 (rotC M at' m)
theorem rotA_size (M : Om.Ma) (at' : Nat → Nat) (m : Nat) : (rotA M at' m).size = 373 := tab_size _ _
section
variable {M : Om.Ma} {at' : Nat → Nat} {m : Nat}
theorem rot_wheel {q r : Nat} (hq : q < m) (hm : m ≤ 4) (hr : r < 80) : (rotA M at' m)[q * 80 + r]? = some (wcl (M.wi q) (Pm.inv (M.wi q)) (fun c => (M.no q).contains c) (M.ri q) (at' q) r) := by
  unfold rotA
  rw [tab_get _ (by omega)]
  unfold rotC
  rw [if_pos (by omega), show (q * 80 + r) / 80 = q by omega, show (q * 80 + r) % 80 = r by omega, if_pos hq]
theorem rot_there {q c : Nat} (hq : q < m) (hm : m ≤ 4) (hc : c < 26) : (rotA M at' m)[q * 80 + c]? = some (.int .i64 (M.wi q c : Nat)) := by
  rw [rot_wheel hq hm (by omega)]; unfold wcl; rw [if_pos hc]
theorem rot_back {q c : Nat} (hq : q < m) (hm : m ≤ 4) (hc : c < 26) : (rotA M at' m)[q * 80 + 26 + c]? = some (.int .i64 (Pm.inv (M.wi q) c : Nat)) := by
  rw [Nat.add_assoc, rot_wheel hq hm (by omega)]; unfold wcl; rw [if_neg (by omega), if_pos (by omega), show 26 + c - 26 = c by omega]
theorem rot_no {q c : Nat} (hq : q < m) (hm : m ≤ 4) (hc : c < 26) : (rotA M at' m)[q * 80 + 52 + c]? = some (.bool ((M.no q).contains c)) := by
  rw [Nat.add_assoc, rot_wheel hq hm (by omega)]; unfold wcl; rw [if_neg (by omega), if_neg (by omega), if_pos (by omega), show 52 + c - 52 = c by omega]
theorem rot_ri {q : Nat} (hq : q < m) (hm : m ≤ 4) : (rotA M at' m)[q * 80 + 78]? = some (.int .i64 (M.ri q : Nat)) := by
  rw [rot_wheel hq hm (by omega)]; unfold wcl; rw [if_neg (by omega), if_neg (by omega), if_neg (by omega), if_pos rfl]
theorem rot_at {q : Nat} (hq : q < m) (hm : m ≤ 4) : (rotA M at' m)[q * 80 + 79]? = some (.int .i64 (at' q : Nat)) := by
  rw [rot_wheel hq hm (by omega)]; unfold wcl; rw [if_neg (by omega), if_neg (by omega), if_neg (by omega), if_neg (by omega)]
theorem rot_n : (rotA M at' m)[320]? = some (.int .i64 (M.n : Nat)) := by
  unfold rotA
  rw [tab_get _ (by omega)]
  unfold rotC
  rw [if_neg (by omega), if_pos rfl]
theorem rot_rf {c : Nat} (hc : c < 26) : (rotA M at' m)[321 + c]? = some (.int .i64 (M.rf c : Nat)) := by
  unfold rotA
  rw [tab_get _ (by omega)]
  unfold rotC
  rw [if_neg (by omega), if_neg (by omega), if_pos (by omega), show 321 + c - 321 = c by omega]
theorem rot_pl {c : Nat} (hc : c < 26) : (rotA M at' m)[347 + c]? = some (.int .i64 (M.pl c : Nat)) := by
  unfold rotA
  rw [tab_get _ (by omega)]
  unfold rotC
  rw [if_neg (by omega), if_neg (by omega), if_neg (by omega), show 347 + c - 347 = c by omega]
theorem rot_set {q : Nat} (hq : q < m) (v : Nat) : (rotA M at' m).setIfInBounds (q * 80 + 79) (.int .i64 (v : Nat)) = rotA M (upd at' q v) m := by
  unfold rotA
  rw [tab_set]
  refine tab_ext fun i hi => ?_
  by_cases e : i = q * 80 + 79
  · subst e
    rw [upd_same]
    unfold rotC
    rw [if_pos (by omega), show (q * 80 + 79) / 80 = q by omega, show (q * 80 + 79) % 80 = 79 by omega, if_pos hq]
    unfold wcl
    rw [if_neg (by omega), if_neg (by omega), if_neg (by omega), if_neg (by omega), upd_same]
  · rw [upd_other _ _ e]
    unfold rotC
    by_cases h1 : i < 320
    · rw [if_pos h1, if_pos h1]
      by_cases h2 : i / 80 < m
      · rw [if_pos h2, if_pos h2]
        by_cases h3 : i / 80 = q
        · have h4 : i % 80 ≠ 79 := by omega
          have h5 : i % 80 < 79 := by omega
          generalize i % 80 = r at h4 h5
          unfold wcl
          split
          · rfl
          split
          · rfl
          split
          · rfl
          rw [if_pos (by omega), if_pos (by omega)]
        · rw [upd_other _ _ h3]
      · rw [if_neg h2, if_neg h2]
    · rw [if_neg h1, if_neg h1]
end
/-- A machine at work lies in block b. -/
structure RotAt (W : World) (b : Nat) (M : Om.Ma) (at' : Nat → Nat) : Prop where
  row : RowAt W b 92 (rotA M at' M.n)
  ok : Om.Ok M
  ins : Om.In26 M at'
section
variable {w W : World} {b : Nat} {M : Om.Ma} {at' : Nat → Nat}
theorem RotAt.below (h : RotAt w b M at') (hb : Below w.heap.size w W) : RotAt W b M at' := ⟨h.row.below hb h.row.lt, h.ok, h.ins⟩
theorem RotAt.alloc (h : RotAt w b M at') (o : Obj) : RotAt (w.alloc o) b M at' := ⟨h.row.alloc o, h.ok, h.ins⟩
theorem RotAt.drew (h : RotAt w b M at') : RotAt w.drew b M at' := ⟨h.row, h.ok, h.ins⟩
theorem RotAt.there (h : RotAt w b M at') {q c : Nat} (hq : q < M.n) (hc : c < 26) : w.cell? ⟨b, q * 80 + c, none⟩ = some (.int .i64 (M.wi q c : Nat)) := h.row.cell (rot_there hq h.ok.most hc)
theorem RotAt.back (h : RotAt w b M at') {q c : Nat} (hq : q < M.n) (hc : c < 26) : w.cell? ⟨b, q * 80 + 26 + c, none⟩ = some (.int .i64 (Pm.inv (M.wi q) c : Nat)) := h.row.cell (rot_back hq h.ok.most hc)
theorem RotAt.no (h : RotAt w b M at') {q c : Nat} (hq : q < M.n) (hc : c < 26) : w.cell? ⟨b, q * 80 + 52 + c, none⟩ = some (.bool ((M.no q).contains c)) := h.row.cell (rot_no hq h.ok.most hc)
theorem RotAt.ring (h : RotAt w b M at') {q : Nat} (hq : q < M.n) : w.cell? ⟨b, q * 80 + 78, none⟩ = some (.int .i64 (M.ri q : Nat)) := h.row.cell (rot_ri hq h.ok.most)
theorem RotAt.window (h : RotAt w b M at') {q : Nat} (hq : q < M.n) : w.cell? ⟨b, q * 80 + 79, none⟩ = some (.int .i64 (at' q : Nat)) := h.row.cell (rot_at hq h.ok.most)
theorem RotAt.many (h : RotAt w b M at') : w.cell? ⟨b, 320, none⟩ = some (.int .i64 (M.n : Nat)) := h.row.cell rot_n
theorem RotAt.refl (h : RotAt w b M at') {c : Nat} (hc : c < 26) : w.cell? ⟨b, 321 + c, none⟩ = some (.int .i64 (M.rf c : Nat)) := h.row.cell (rot_rf hc)
theorem RotAt.plug (h : RotAt w b M at') {c : Nat} (hc : c < 26) : w.cell? ⟨b, 347 + c, none⟩ = some (.int .i64 (M.pl c : Nat)) := h.row.cell (rot_pl hc)
theorem RotAt.turn (h : RotAt w b M at') {q : Nat} (hq : q < M.n) {v : Nat} (hv : v < 26) : RotAt (w.setCell ⟨b, q * 80 + 79, none⟩ (.int .i64 (v : Nat))) b M (upd at' q v) := ⟨by
  have := h.row.set (q * 80 + 79) (.int .i64 (v : Nat))
  rw [rot_set hq] at this
  exact this, h.ok, fun i hi => by
    unfold upd
    by_cases e : i = q
    · rw [if_pos e]; exact hv
    · rw [if_neg e]; exact h.ins i hi⟩
end
end Go.Proofs.Ytigamiehnjipcaa
