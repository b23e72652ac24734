/-
  Several texts, joined: OPm, RoKit, ORef, RoSm, ORWr.
-/
import Derived.Test.YtkohhdkkbaifoaaGreatDoorJn4
import Derived.Deep.QuietTactic
import Derived.BigQuiet
import Derived.OrdersHeld
import Derived.Test.YtkohhdkkbaifoaaGreatDoorJn2
import Derived.Deep.Upon
import Derived.BigRegion
import Derived.Deep.OwnRows
import Derived.RegionTactic
/-
  The document's Wrong and Back of chapter 2.
-/
namespace Go.Proofs.YtkohhdkkbaifoaaGreatDoor
open Go.RowKit PK

theorem built_perm : Tryz.prog.built 27 [] = some (ints 26 fun _ => 0) := by kernel_rfl
section
variable {ops : Array Oper} {rest : List Oper} {op : Oper} {a : Act} {w : World} {Q : Exit → Act → World → Prop}
end
end Go.Proofs.YtkohhdkkbaifoaaGreatDoor

/-
  A machine at work: its cells; the way back through its wheels.
-/
namespace Go.Proofs.YtkohhdkkbaifoaaGreatDoor
open Go.RowKit PK

namespace Om
open Pm
/-- Back through the first k wheels from the first one on. -/
def bk (M : Ma) (at' : Nat → Nat) : Nat → Nat → Nat
  | 0, c => c
  | k + 1, c => wheel (inv (M.wi k)) (by' M at' k) (bk M at' k c)
theorem wheel_lt (p : Nat → Nat) (b c : Nat) : wheel p b c < 26 := Nat.mod_lt _ (by decide)
theorem bk_lt {M : Ma} (at' : Nat → Nat) {c : Nat} (hc : c < 26) : ∀ k, bk M at' k c < 26
  | 0 => hc
  | _ + 1 => wheel_lt _ _ _
theorem through_lt {M : Ma} (at' : Nat → Nat) {c : Nat} (hc : c < 26) : ∀ k, through M at' k c < 26
  | 0 => hc
  | _ + 1 => wheel_lt _ _ _
theorem wheel_inv {p : Nat → Nat} (hp : IsPerm p) {b c : Nat} (hb : b < 26) (hc : c < 26) : wheel p b (wheel (inv p) b c) = c := by
  have h1 := hp.inv_spec ((c + b) % 26) (Nat.mod_lt _ (by decide))
  unfold wheel
  have e : ((inv p ((c + b) % 26) + 26 - b) % 26 + b) % 26 = inv p ((c + b) % 26) := by
    have := h1.1
    omega
  rw [e, h1.2]
  omega
theorem through_bk {M : Ma} (h : Ok M) (at' : Nat → Nat) {c : Nat} (hc : c < 26) : ∀ k, k ≤ M.n → through M at' k (bk M at' M.n c) = bk M at' (M.n - k) c
  | 0, _ => rfl
  | k + 1, hk => by
    show wheel (M.wi (M.n - 1 - k)) (by' M at' (M.n - 1 - k)) (through M at' k (bk M at' M.n c)) = _
    rw [through_bk h at' hc k (by omega), show M.n - k = (M.n - 1 - k) + 1 by omega, show M.n - (k + 1) = M.n - 1 - k by omega]
    exact wheel_inv (h.wi _ (by omega)) (by_lt _ _ _) (bk_lt at' hc _)
theorem now_eq {M : Ma} (h : Ok M) (at' : Nat → Nat) {c : Nat} (hc : c < 26) : now M at' c = M.pl (bk M at' M.n (M.rf (through M at' M.n (M.pl c)))) := by
  have hp := there_perm h at'
  have h1 : there M at' c < 26 := hp.1 c hc
  have h2 := h.rf.1 _ h1
  have h3 := bk_lt (M := M) at' h2 M.n
  unfold now
  refine inv_unique hp (h.pl.1 _ h3) ?_
  show through M at' M.n (M.pl (M.pl (bk M at' M.n (M.rf (there M at' c))))) = M.rf (there M at' c)
  rw [h.pl2 _ h3, through_bk h at' h2 M.n (Nat.le_refl _), Nat.sub_self]
  rfl
/-- Windows on the way: those from k on have turned. -/
def mid (M : Ma) (at' : Nat → Nat) (k : Nat) : Nat → Nat := fun i => if k ≤ i then step M at' i else at' i
theorem mid_now (M : Ma) (at' : Nat → Nat) {k i : Nat} (h : i < k) : mid M at' k i = at' i := if_neg (by omega)
theorem mid_turn {M : Ma} {at' : Nat → Nat} {k : Nat} (h : turns M at' k = true) : upd (mid M at' (k + 1)) k ((at' k + 1) % 26) = mid M at' k := by
  funext i
  unfold upd mid
  by_cases e : i = k
  · subst e
    rw [if_pos rfl, if_pos (Nat.le_refl _)]
    unfold step
    rw [if_pos h]
  · rw [if_neg e]
    by_cases e2 : k ≤ i
    · rw [if_pos e2, if_pos (by omega)]
    · rw [if_neg e2, if_neg (by omega)]
theorem mid_stay {M : Ma} {at' : Nat → Nat} {k : Nat} (h : turns M at' k = false) : mid M at' (k + 1) = mid M at' k := by
  funext i
  unfold mid
  by_cases e : i = k
  · subst e
    rw [if_neg (by omega), if_pos (Nat.le_refl _)]
    unfold step
    rw [h]
    rfl
  · by_cases e2 : k ≤ i
    · rw [if_pos e2, if_pos (by omega)]
    · rw [if_neg e2, if_neg (by omega)]
theorem mid_all (M : Ma) (at' : Nat → Nat) : mid M at' 0 = step M at' := by
  funext i
  unfold mid
  rw [if_pos (Nat.zero_le _)]
/-- What is carried to wheel k. -/
def car (M : Ma) (at' : Nat → Nat) (k : Nat) : Bool := k == M.n || (M.no k).contains (at' k)
theorem turns_car (M : Ma) (at' : Nat → Nat) (k : Nat) : turns M at' k = (car M at' (k + 1) || (decide (0 < k) && (M.no k).contains (at' k))) := rfl
theorem car_top (M : Ma) (at' : Nat → Nat) : car M at' M.n = true := by simp [car]
theorem car_in {M : Ma} (at' : Nat → Nat) {k : Nat} (h : k < M.n) : car M at' k = (M.no k).contains (at' k) := by
  unfold car
  rw [show (k == M.n) = false from beq_false_of_ne (by omega)]
  rfl
end Om

/-- The cells of a wheel that turns. -/
def wcl (p b : Nat → Nat) (no : Nat → Bool) (ri at' : Nat) (r : Nat) : Value :=
  if r < 26 then .int .i64 (p r : Nat) else if r < 52 then .int .i64 (b (r - 26) : Nat) else if r < 78 then .bool (no (r - 52)) else if r = 78 then .int .i64 (ri : Nat) else .int .i64 (at' : Nat)
def wlA (p b : Nat → Nat) (no : Nat → Bool) (ri at' : Nat) : Array Value := tab 80 (wcl p b no ri at')
theorem wlA_size (p b : Nat → Nat) (no : Nat → Bool) (ri at' : Nat) : (wlA p b no ri at').size = 80 := tab_size _ _
theorem wlA_one (p b : Nat → Nat) (no : Nat → Bool) (ri at' : Nat) : (wlA p b no ri at').all (·.oneCell') = true := by
  rw [Array.all_eq_true_iff_forall_mem]
  intro v hv
  simp [wlA, tab] at hv
  obtain ⟨i, _, rfl⟩ := hv
  unfold wcl
  split
  · rfl
  split
  · rfl
  split
  · rfl
  split <;> rfl
theorem wlA_no (p b : Nat → Nat) (no : Nat → Bool) (ri at' : Nat) {k : Nat} (hk : k < 26) : (wlA p b no ri at').setIfInBounds (52 + k) (.bool true) = wlA p b (upd no k true) ri at' := by
  unfold wlA
  rw [tab_set]
  refine tab_ext fun i hi => ?_
  by_cases e : i = 52 + k
  · subst e
    rw [upd_same]
    unfold wcl
    rw [if_neg (by omega), if_neg (by omega), if_pos (by omega), show 52 + k - 52 = k by omega, upd_same]
  · rw [upd_other _ _ e]
    unfold wcl
    by_cases h : 52 ≤ i ∧ i < 78
    · rw [if_neg (by omega), if_neg (by omega), if_pos h.2, if_neg (by omega), if_neg (by omega), if_pos h.2, upd_other _ _ (by omega)]
    · split
      · rfl
      split
      · rfl
      have h78 : ¬ i < 78 := by omega
      rw [if_neg h78, if_neg h78]
/-- The cells of a machine at work, m wheels of which are laid. -/
def rotC (M : Om.Ma) (at' : Nat → Nat) (m : Nat) (i : Nat) : Value :=
  if i < 320 then (if i / 80 < m then wcl (M.wi (i / 80)) (Pm.inv (M.wi (i / 80))) (fun c => (M.no (i / 80)).contains c) (M.ri (i / 80)) (at' (i / 80)) (i % 80) else wcl (fun _ => 0) (fun _ => 0) (fun _ => false) 0 0 (i % 80))
  else if i = 320 then .int .i64 (M.n : Nat) else if i < 347 then .int .i64 (M.rf (i - 321) : Nat) else .int .i64 (M.pl (i - 347) : Nat)
def rotA (M : Om.Ma) (at' : Nat → Nat) (m : Nat) : Array Value := tab 373 (rotC M at' m)
theorem rotA_size (M : Om.Ma) (at' : Nat → Nat) (m : Nat) : (rotA M at' m).size = 373 := tab_size _ _
section
variable {M : Om.Ma} {at' : Nat → Nat} {m : Nat}
theorem rot_wheel {q r : Nat} (hq : q < m) (hm : m ≤ 4) (hr : r < 80) : (rotA M at' m)[q * 80 + r]? = some (wcl (M.wi q) (Pm.inv (M.wi q)) (fun c => (M.no q).contains c) (M.ri q) (at' q) r) := by
  unfold rotA
  rw [tab_get _ (by omega)]
  unfold rotC
  rw [if_pos (by omega), show (q * 80 + r) / 80 = q by omega, show (q * 80 + r) % 80 = r by omega, if_pos hq]
theorem rot_there {q c : Nat} (hq : q < m) (hm : m ≤ 4) (hc : c < 26) : (rotA M at' m)[q * 80 + c]? = some (.int .i64 (M.wi q c : Nat)) := by
  rw [rot_wheel hq hm (by omega)]; unfold wcl; rw [if_pos hc]
theorem rot_back {q c : Nat} (hq : q < m) (hm : m ≤ 4) (hc : c < 26) : (rotA M at' m)[q * 80 + 26 + c]? = some (.int .i64 (Pm.inv (M.wi q) c : Nat)) := by
  rw [Nat.add_assoc, rot_wheel hq hm (by omega)]; unfold wcl; rw [if_neg (by omega), if_pos (by omega), show 26 + c - 26 = c by omega]
theorem rot_no {q c : Nat} (hq : q < m) (hm : m ≤ 4) (hc : c < 26) : (rotA M at' m)[q * 80 + 52 + c]? = some (.bool ((M.no q).contains c)) := by
  rw [Nat.add_assoc, rot_wheel hq hm (by omega)]; unfold wcl; rw [if_neg (by omega), if_neg (by omega), if_pos (by omega), show 52 + c - 52 = c by omega]
theorem rot_ri {q : Nat} (hq : q < m) (hm : m ≤ 4) : (rotA M at' m)[q * 80 + 78]? = some (.int .i64 (M.ri q : Nat)) := by
  rw [rot_wheel hq hm (by omega)]; unfold wcl; rw [if_neg (by omega), if_neg (by omega), if_neg (by omega), if_pos rfl]
theorem rot_at {q : Nat} (hq : q < m) (hm : m ≤ 4) : (rotA M at' m)[q * 80 + 79]? = some (.int .i64 (at' q : Nat)) := by
  rw [rot_wheel hq hm (by omega)]; unfold wcl; rw [if_neg (by omega), if_neg (by omega), if_neg (by omega), if_neg (by omega)]
theorem rot_n : (rotA M at' m)[320]? = some (.int .i64 (M.n : Nat)) := by
  unfold rotA
  rw [tab_get _ (by omega)]
  unfold rotC
  rw [if_neg (by omega), if_pos rfl]
theorem rot_rf {c : Nat} (hc : c < 26) : (rotA M at' m)[321 + c]? = some (.int .i64 (M.rf c : Nat)) := by
  unfold rotA
  rw [tab_get _ (by omega)]
  unfold rotC
  rw [if_neg (by omega), if_neg (by omega), if_pos (by omega), show 321 + c - 321 = c by omega]
theorem rot_pl {c : Nat} (hc : c < 26) : (rotA M at' m)[347 + c]? = some (.int .i64 (M.pl c : Nat)) := by
  unfold rotA
  rw [tab_get _ (by omega)]
  unfold rotC
  rw [if_neg (by omega), if_neg (by omega), if_neg (by omega), show 347 + c - 347 = c by omega]
theorem rot_set {q : Nat} (hq : q < m) (v : Nat) : (rotA M at' m).setIfInBounds (q * 80 + 79) (.int .i64 (v : Nat)) = rotA M (upd at' q v) m := by
  unfold rotA
  rw [tab_set]
  refine tab_ext fun i hi => ?_
  by_cases e : i = q * 80 + 79
  · subst e
    rw [upd_same]
    unfold rotC
    rw [if_pos (by omega), show (q * 80 + 79) / 80 = q by omega, show (q * 80 + 79) % 80 = 79 by omega, if_pos hq]
    unfold wcl
    rw [if_neg (by omega), if_neg (by omega), if_neg (by omega), if_neg (by omega), upd_same]
  · rw [upd_other _ _ e]
    unfold rotC
    by_cases h1 : i < 320
    · rw [if_pos h1, if_pos h1]
      by_cases h2 : i / 80 < m
      · rw [if_pos h2, if_pos h2]
        by_cases h3 : i / 80 = q
        · have h4 : i % 80 ≠ 79 := by omega
          have h5 : i % 80 < 79 := by omega
          generalize i % 80 = r at h4 h5
          unfold wcl
          split
          · rfl
          split
          · rfl
          split
          · rfl
          rw [if_pos (by omega), if_pos (by omega)]
        · rw [upd_other _ _ h3]
      · rw [if_neg h2, if_neg h2]
    · rw [if_neg h1, if_neg h1]
end
/-- A machine at work lies in block b. -/
structure RotAt (W : World) (b : Nat) (M : Om.Ma) (at' : Nat → Nat) : Prop where
  row : RowAt W b 191 (rotA M at' M.n)
  ok : Om.Ok M
  ins : Om.In26 M at'
section
variable {w W : World} {b : Nat} {M : Om.Ma} {at' : Nat → Nat}
theorem RotAt.below (h : RotAt w b M at') (hb : Below w.heap.size w W) : RotAt W b M at' := ⟨h.row.below hb h.row.lt, h.ok, h.ins⟩
theorem RotAt.alloc (h : RotAt w b M at') (o : Obj) : RotAt (w.alloc o) b M at' := ⟨h.row.alloc o, h.ok, h.ins⟩
theorem RotAt.drew (h : RotAt w b M at') : RotAt w.drew b M at' := ⟨h.row, h.ok, h.ins⟩
theorem RotAt.there (h : RotAt w b M at') {q c : Nat} (hq : q < M.n) (hc : c < 26) : w.cell? ⟨b, q * 80 + c, none⟩ = some (.int .i64 (M.wi q c : Nat)) := h.row.cell (rot_there hq h.ok.most hc)
theorem RotAt.back (h : RotAt w b M at') {q c : Nat} (hq : q < M.n) (hc : c < 26) : w.cell? ⟨b, q * 80 + 26 + c, none⟩ = some (.int .i64 (Pm.inv (M.wi q) c : Nat)) := h.row.cell (rot_back hq h.ok.most hc)
theorem RotAt.no (h : RotAt w b M at') {q c : Nat} (hq : q < M.n) (hc : c < 26) : w.cell? ⟨b, q * 80 + 52 + c, none⟩ = some (.bool ((M.no q).contains c)) := h.row.cell (rot_no hq h.ok.most hc)
theorem RotAt.ring (h : RotAt w b M at') {q : Nat} (hq : q < M.n) : w.cell? ⟨b, q * 80 + 78, none⟩ = some (.int .i64 (M.ri q : Nat)) := h.row.cell (rot_ri hq h.ok.most)
theorem RotAt.window (h : RotAt w b M at') {q : Nat} (hq : q < M.n) : w.cell? ⟨b, q * 80 + 79, none⟩ = some (.int .i64 (at' q : Nat)) := h.row.cell (rot_at hq h.ok.most)
theorem RotAt.many (h : RotAt w b M at') : w.cell? ⟨b, 320, none⟩ = some (.int .i64 (M.n : Nat)) := h.row.cell rot_n
theorem RotAt.refl (h : RotAt w b M at') {c : Nat} (hc : c < 26) : w.cell? ⟨b, 321 + c, none⟩ = some (.int .i64 (M.rf c : Nat)) := h.row.cell (rot_rf hc)
theorem RotAt.plug (h : RotAt w b M at') {c : Nat} (hc : c < 26) : w.cell? ⟨b, 347 + c, none⟩ = some (.int .i64 (M.pl c : Nat)) := h.row.cell (rot_pl hc)
theorem RotAt.turn (h : RotAt w b M at') {q : Nat} (hq : q < M.n) {v : Nat} (hv : v < 26) : RotAt (w.setCell ⟨b, q * 80 + 79, none⟩ (.int .i64 (v : Nat))) b M (upd at' q v) := ⟨by
  have := h.row.set (q * 80 + 79) (.int .i64 (v : Nat))
  rw [rot_set hq] at this
  exact this, h.ok, fun i hi => by
    unfold upd
    by_cases e : i = q
    · rw [if_pos e]; exact hv
    · rw [if_neg e]; exact h.ins i hi⟩
end
end Go.Proofs.YtkohhdkkbaifoaaGreatDoor

/-
  Contracts of the document's inside and Notched (chapter 8).
-/
namespace Go.Proofs.YtkohhdkkbaifoaaGreatDoor
open Go.RowKit PK

theorem ins_upto {n : Nat} {f : Nat → Int} {k : Nat} (hk : k < n) (h : f k < 0 ∨ 25 < f k) : ins n f = false := by
  cases e : ins n f with
  | false => rfl
  | true => have := (ins_iff n f).1 e k hk; omega
end Go.Proofs.YtkohhdkkbaifoaaGreatDoor

/-
  Contracts of rotor's small functions.
-/
namespace Go.Proofs.YtkohhdkkbaifoaaGreatDoor
open Go.RowKit PK Vg

def isN (n : Int) : Bool := decide (0 ≤ n ∧ n ≤ 25)
set_option maxHeartbeats 400000 in
theorem isLetter8_any (c : Int) (w : World) : Calls Tryz.prog 115 #[.int .i64 c] w fun e w' => e = .returned (.bool (isN c)) ∧ w = w' := by
  by_cases h1 : 0 ≤ c
  · by_cases h2 : c < 26
    · have e : isN c = true := by simp [isN]; omega
      go_enter Tryz.func115, Tryz.ntmps115
      go_wp2
      go_ret
      exact ⟨by rw [e]; rfl, rfl⟩
    · have e : isN c = false := by simp [isN]; omega
      go_enter Tryz.func115, Tryz.ntmps115
      go_wp2
      go_ret
      exact ⟨rfl, rfl⟩
  · have e : isN c = false := by simp [isN]; omega
    go_enter Tryz.func115, Tryz.ntmps115
    go_wp2
    go_ret
    exact ⟨rfl, rfl⟩
set_option maxRecDepth 100000 in
set_option maxHeartbeats 1000000 in
theorem areLetters_any (v : Value) (n : Nat) (f : Nat → Int) (w : World) (hv : NumsAt w v n f) : Calls Tryz.prog 68 #[v] w fun e w' => e = .returned (.bool (ins n f)) ∧ w = w' := by
  obtain ⟨a, cap, rfl, hm, hc⟩ := hv
  have HC := (show Hid _ from hc)
  unfold maxLen at hm
  clear hc
  have HU := (show Hid (∀ k, k < n → (f k < 0 ∨ 25 < f k) → ins n f = false) from fun k hk h => ins_upto hk h)
  have HA := (show Hid ((∀ i, i < n → 0 ≤ f i ∧ f i ≤ 25) → ins n f = true) from (ins_iff n f).2)
  generalize ins n f = B at *
  go_enter Tryz.func68, Tryz.ntmps68
  go_wp2_with fail
  go_loopw [7] (fun i W => ∃ k : Nat, k ≤ n ∧ i = .int .i64 (k : Nat) ∧ Hid (∀ i, i < k → 0 ≤ f i ∧ f i ≤ 25) ∧ w = W) (fun i _ => ((n : Int) - intOf i).toNat)
  case atStart => exact ⟨0, by omega, rfl, fun i hi => by omega, rfl⟩
  case round =>
    obtain ⟨k, hk, rfl, HS, rfl⟩ := hrel
    by_cases hlt : k < n
    · obtain ⟨b, o, rfl, hc0⟩ := HC.out k hlt
      have HLT : Hid (k < n) := hlt
      by_cases hx : isN (f k) = true
      · have hx3 : 0 ≤ f k ∧ f k ≤ 25 := by simpa [isN] using hx
        have HN : Hid (∀ i, i < k + 1 → 0 ≤ f i ∧ f i ≤ 25) := fun i hi => by
          by_cases e : i = k
          · rw [e]; exact hx3
          · exact HS.out i (by omega)
        have HL := (show Hid (∀ W, Calls Tryz.prog 115 #[.int .i64 (f k)] W fun e w' => e = .returned (.bool true) ∧ W = w') from fun W => by have := isLetter8_any (f k) W; rw [hx] at this; exact this)
        clear hx hx3
        go_wp2_with fail
        refine (HL.out _).mono ?_
        rintro e V ⟨rfl, rfl⟩
        go_wp2_with fail
        go_roundw
        case rel => exact ⟨k + 1, HLT.out, by go_num, HN.out, by first | rfl | trivial⟩
        case measure => have := HLT.out; simp [intOf] <;> omega
      · have hx2 : isN (f k) = false := by simpa using hx
        have hx3 : f k < 0 ∨ 25 < f k := by
          have : ¬ (0 ≤ f k ∧ f k ≤ 25) := by simpa [isN] using hx
          omega
        have HB : Hid (B = false) := HU.out k hlt hx3
        have HL := (show Hid (∀ W, Calls Tryz.prog 115 #[.int .i64 (f k)] W fun e w' => e = .returned (.bool false) ∧ W = w') from fun W => by have := isLetter8_any (f k) W; rw [hx2] at this; exact this)
        clear hx hx2 hx3
        go_wp2_with fail
        refine (HL.out _).mono ?_
        rintro e V ⟨rfl, rfl⟩
        go_wp2
        go_ret
        exact ⟨by rw [HB.out]; rfl, rfl⟩
    · obtain rfl : k = n := by omega
      have hlt2 : ¬ (k : Int) < (k : Int) := by omega
      have HB : Hid (B = true) := HA.out HS.out
      go_wp2
      go_ret
      exact ⟨by rw [HB.out]; rfl, rfl⟩
set_option maxHeartbeats 400000 in
theorem number_any (c : UInt8) (h : 65 ≤ c.toNat ∧ c.toNat ≤ 90) (w : World) : Calls Tryz.prog 135 #[.int .u8 (c.toNat : Nat)] w fun e w' => e = .returned (.int .i64 (Vg.num c : Nat)) ∧ w = w' := by
  have e : (Vg.num c : Int) = (c.toNat : Int) - 65 := by unfold Vg.num; omega
  go_enter Tryz.func135, Tryz.ntmps135
  go_wp2
  go_ret
  exact ⟨by rw [e]; go_num, rfl⟩
set_option maxHeartbeats 400000 in
theorem letter_any (n : Nat) (h : n < 26) (w : World) : Calls Tryz.prog 133 #[.int .i64 (n : Nat)] w fun e w' => e = .returned (.int .u8 ((ltr n).toNat : Nat)) ∧ w = w' := by
  have e := ltr_toNat h
  go_enter Tryz.func133, Tryz.ntmps133
  go_wp2
  go_ret
  exact ⟨by rw [e]; go_num, rfl⟩
set_option maxHeartbeats 400000 in
theorem thr_any (b o : Nat) (p : Nat → Nat) (y c : Nat) (hy : y < 26) (hc : c < 26) (hp : ∀ c, c < 26 → p c < 26) (w : World) (hcell : ∀ c, c < 26 → w.cell? ⟨b, o + c, none⟩ = some (.int .i64 (p c : Nat))) : Calls Tryz.prog 177 #[.pointer (some ⟨b, o, none⟩), .int .i64 (y : Nat), .int .i64 (c : Nat)] w fun e w' => e = .returned (.int .i64 (Om.wheel p y c : Nat)) ∧ w = w' := by
  have hm : (c + y) % 26 < 26 := Nat.mod_lt _ (by decide)
  have h1 := hcell _ hm
  have h2 := hp _ hm
  have HE : Hid (Om.wheel p y c = (p ((c + y) % 26) + 26 - y) % 26) := rfl
  generalize Om.wheel p y c = E at *
  generalize p ((c + y) % 26) = P1 at *
  obtain ⟨q, hq⟩ : ∃ q, q = (c + y) % 26 := ⟨_, rfl⟩
  rw [← hq] at h1 hm
  have e1 : ((c : Int) + (y : Int)).tmod 26 = (q : Int) := by rw [Int.tmod_eq_emod_of_nonneg (by omega)]; omega
  have e2 : ((P1 : Int) - (y : Int) + 26).tmod 26 = (E : Int) := by rw [HE.out, Int.tmod_eq_emod_of_nonneg (by omega)]; omega
  clear HE hq hcell hp
  go_enter Tryz.func177, Tryz.ntmps177
  go_wp2
  go_ret
  exact ⟨rfl, rfl⟩
set_option maxHeartbeats 400000 in
theorem by_any (b q : Nat) (M : Om.Ma) (at' : Nat → Nat) (hq : q < M.n) (w : World) (h : RotAt w b M at') : Calls Tryz.prog 178 #[.pointer (some ⟨b, q * 80, none⟩)] w fun e w' => e = .returned (.int .i64 (Om.by' M at' q : Nat)) ∧ Below w.heap.size w w' := by
  have hw := h.window hq
  have hr := h.ring hq
  have h1 := h.ins q hq
  have h2 := h.ok.ri q hq
  have HE : Hid (Om.by' M at' q = (at' q + 26 - M.ri q) % 26) := rfl
  generalize Om.by' M at' q = E at *
  generalize at' q = A at *
  generalize M.ri q = R at *
  have e2 : ((A : Int) - (R : Int) + 26).tmod 26 = (E : Int) := by rw [HE.out, Int.tmod_eq_emod_of_nonneg (by omega)]; omega
  clear HE h
  go_enter Tryz.func178, Tryz.ntmps178
  go_wp2_with fail
  go_quiet (fail)
  go_wp2
  go_ret
  exact ⟨rfl, ⟨rfl, rfl, rfl, Nat.le_refl _, fun _ _ => rfl⟩⟩
end Go.Proofs.YtkohhdkkbaifoaaGreatDoor

/-
  Contract of the document's Wrong (chapter 8).
-/
namespace Go.Proofs.YtkohhdkkbaifoaaGreatDoor
open Go.RowKit PK

theorem v_info_mac : (Tryz.prog.info? 29).map (·.size) = some 55 := by kernel_rfl
theorem v_info_whl : (Tryz.prog.info? 97).map (·.size) = some 27 := by kernel_rfl
theorem v_zero_whl : (Tryz.prog.info? 97).map (·.zero) = some (some (.agg (whl (fun _ => 0) (.slice none 0 0)))) := by kernel_rfl
theorem v_zero_perm : (Tryz.prog.info? 27).map (·.zero) = some (some (.agg (ints 26 fun _ => 0))) := by kernel_rfl
theorem o_zero {P : Program} {t : TypeId} {z : Value} (h : (P.info? t).map (·.zero) = some (some z)) (w : World) : (zeroValue t).run P w = .ok z w := by
  cases hi : P.info? t with
  | none => simp [hi] at h
  | some i =>
    have h2 : i.zero = some z := by simpa [hi] using h
    simp [zeroValue, typeInfo, hi, h2]
/-- An array or a struct read out of the midst of a block. -/
theorem wpList_load_arr {P : Program} {ops : Array Oper} {rest : List Oper} {op : Oper} {a : Act} {w : World} {Q : Exit → Act → World → Prop} (hgd : op.guard = none) (ty : TypeId) (x : Operand) (ho : op.op = .load ty x)
    (b o : Nat) (hx : a.eval x = .pointer (some ⟨b, o, none⟩)) (cs : Array Value) (d : TypeDesc) (hc : w.rangeAt b o cs.toList)
    (hu : P.underlying ty = some d) (hd : d.isRow = true) (hi : (P.info? ty).map (·.size) = some cs.size)
    (h : wpList P ops Q rest (a.put op.dst (.agg cs)) w) : wpList P ops Q (op :: rest) a w :=
  wpList_load_mid hgd ty x ho b o hx cs.toList d hc hu hd (by rw [Array.length_toList]; exact hi) (by rw [Array.toArray_toList]; exact h)
theorem whl_one {f : Nat → Int} {v : Value} (h : v.oneCell' = true) : (whl f v).all (·.oneCell') = true := by
  unfold whl
  rw [Array.all_push, ints_one, h]
  rfl
theorem row_mid {w : World} {b : Nat} {T : TypeId} {c : Array Value} (h : RowAt w b T c) (o : Nat) (cs : Array Value) (e : ∀ i v, cs[i]? = some v → c[o + i]? = some v) : w.rangeAt b o cs.toList := fun j v hv => h.cell (e j v (by rw [← Array.getElem?_toList]; exact hv))
theorem at_ints {n : Nat} {f : Nat → Int} {i : Nat} {v : Value} (h : (ints n f)[i]? = some v) : i < n ∧ v = .int .i64 (f i) := by
  have h1 : i < n := by
    have := (Array.getElem?_eq_some_iff.1 h).1
    rw [ints_size] at this
    exact this
  rw [ints_get f h1] at h
  exact ⟨h1, (Option.some.inj h).symm⟩
theorem mid_wi {w : World} {b : Nat} {T : TypeId} {f : Nat → Int} {v : Value} (h : RowAt w b T (whl f v)) : w.rangeAt b 0 (ints 26 f).toList := row_mid h 0 _ fun i v hv => by
  obtain ⟨h1, rfl⟩ := at_ints hv
  rw [Nat.zero_add]
  exact whl_get f _ h1
theorem mid_rf {w : World} {b : Nat} {T : TypeId} {x y z : Value} {rf pl : Nat → Int} (h : RowAt w b T (mac x y z rf pl)) : w.rangeAt b 3 (ints 26 rf).toList := row_mid h 3 _ fun i v hv => by
  obtain ⟨h1, rfl⟩ := at_ints hv
  exact mac_rf _ _ _ _ _ h1
theorem mid_pl {w : World} {b : Nat} {T : TypeId} {x y z : Value} {rf pl : Nat → Int} (h : RowAt w b T (mac x y z rf pl)) : w.rangeAt b 29 (ints 26 pl).toList := row_mid h 29 _ fun i v hv => by
  obtain ⟨h1, rfl⟩ := at_ints hv
  exact mac_pl _ _ _ _ _ h1
/-- The machine in its variable, laid first. -/
structure MgAt (w W : World) (a b c : Value) (rf pl : Nat → Int) : Prop where
  row : RowAt W w.heap.size 29 (mac a b c rf pl)
  below : Below w.heap.size w W
theorem MgAt.new (w : World) (a b c : Value) (rf pl : Nat → Int) : MgAt w (w.alloc (.cells (mac a b c rf pl) 29)) a b c rf pl := ⟨RowAt.new w _ _, (Below.refl _ w).alloc (Nat.le_refl _) _⟩
section
variable {w W W' : World} {a b c : Value} {rf pl : Nat → Int}
theorem MgAt.step (h : MgAt w W a b c rf pl) (hb : Below W.heap.size W W') : MgAt w W' a b c rf pl := ⟨h.row.below hb h.row.lt, h.below.trans (hb.mono h.below.size)⟩
theorem MgAt.alloc (h : MgAt w W a b c rf pl) (o : Obj) : MgAt w (W.alloc o) a b c rf pl := ⟨h.row.alloc o, h.below.alloc h.below.size o⟩
theorem MgAt.drew (h : MgAt w W a b c rf pl) : MgAt w W.drew a b c rf pl := ⟨h.row, h.below.drew⟩
theorem MgAt.setRow (h : MgAt w W a b c rf pl) (g : Nat) (hg : w.heap.size < g) (l : Array Value) : MgAt w (W.setRow g l) a b c rf pl := ⟨h.row.rowOther _ _ (by omega), Below.setRow h.below _ (by omega) _⟩
theorem MgAt.c0 (h : MgAt w W a b c rf pl) : W.cell? ⟨w.heap.size, 0, none⟩ = some a := h.row.cell (mac_0 _ _ _ _ _)
theorem MgAt.c1 (h : MgAt w W a b c rf pl) : W.cell? ⟨w.heap.size, 1, none⟩ = some b := h.row.cell (mac_1 _ _ _ _ _)
theorem MgAt.c2 (h : MgAt w W a b c rf pl) : W.cell? ⟨w.heap.size, 2, none⟩ = some c := h.row.cell (mac_2 _ _ _ _ _)
theorem MgAt.lt (h : MgAt w W a b c rf pl) : w.heap.size < W.heap.size := h.row.lt
end
theorem whE_keep (g : Gm) (k : Nat) (h : whE g k ≠ 0) : ∀ n, k ≤ n → whE g n = whE g k
  | 0, hk => by rw [show k = 0 by omega]
  | n + 1, hk => by
    by_cases e : k = n + 1
    · rw [e]
    · have := whE_keep g k h n (by omega)
      show (if whE g n ≠ 0 then whE g n else _) = _
      rw [if_pos (by rw [this]; exact h), this]
section
variable {g : Gm}
theorem gE_1 (h : g.n < 1 ∨ 4 < g.n) : gE g = 5 := by unfold gE; rw [if_pos h]
theorem gE_2 (h : ¬ (g.n < 1 ∨ 4 < g.n)) (h2 : whE g g.n ≠ 0) : gE g = whE g g.n := by unfold gE; rw [if_neg h, if_pos h2]
/-- What is said behind the wheels. -/
def tl (st : Bool) (f : Nat → Int) (rest : Int) : Int := if Pm.wrong f ≠ 0 then Pm.wrong f else if undo st f = false then 1 else rest
def nl (n l : Nat) (f : Nat → Int) (rest : Int) : Int := if l ≠ n then 8 else if ins l f = false then 3 else rest
def gE4 (g : Gm) (k : Nat) : Int := if k = 0 then tl true g.rf (tl false g.pl 0) else if k = 1 then tl false g.pl 0 else 0
def gE5 (g : Gm) (k : Nat) : Int := if k = 0 then nl g.n g.rl g.ri (nl g.n g.sl g.st (gE4 g 0)) else if k = 1 then nl g.n g.sl g.st (gE4 g 0) else gE4 g 0
def gE3 (g : Gm) : Int := gE5 g 0
theorem undo_perm {st : Bool} {f : Nat → Int} {p : Nat → Nat} (hp : Pm.IsPerm p) (e : ∀ i, i < 26 → f i = (p i : Int)) : undo st f = true ↔ ∀ i, i < 26 → p (p i) = i ∧ (st = true → p i ≠ i) := by
  rw [undo_iff]
  constructor
  · intro h i hi
    obtain ⟨h1, h2⟩ := h i hi
    rw [e i hi, Int.toNat_natCast, e _ (hp.lt i hi)] at h1
    refine ⟨by omega, fun hs => ?_⟩
    have := h2 hs
    rw [e i hi] at this
    omega
  · intro h i hi
    obtain ⟨h1, h2⟩ := h i hi
    rw [e i hi, Int.toNat_natCast, e _ (hp.lt i hi), h1]
    refine ⟨rfl, fun hs => ?_⟩
    have := h2 hs
    omega
theorem undo_bad {st : Bool} {f : Nat → Int} {p : Nat → Nat} (hp : Pm.IsPerm p) (e : ∀ i, i < 26 → f i = (p i : Int)) {i : Nat} (hi : i < 26) (h : p (p i) ≠ i ∨ (st = true ∧ p i = i)) : undo st f = false := by
  cases hu : undo st f with
  | false => rfl
  | true =>
    have := (undo_perm hp e).1 hu i hi
    rcases h with h | h
    · exact absurd this.1 h
    · exact absurd h.2 (this.2 h.1)
theorem gE_3 (h : ¬ (g.n < 1 ∨ 4 < g.n)) (h2 : whE g g.n = 0) : gE g = gE3 g := by unfold gE; rw [if_neg h, if_neg (fun e => e h2)]; rfl
end
end Go.Proofs.YtkohhdkkbaifoaaGreatDoor
