/-
  Contract of tele's Write (chapter 13).
-/
import Derived.Test.YtbcjblakknfhmaaTpK
namespace Go.Proofs.Ytbcjblakknfhmaa
open Go.RowKit PK Tl

set_option maxRecDepth 100000 in
set_option maxHeartbeats 4000000 in
theorem pwt_bad (v vt : Value) (T : Te) (n : Nat) (f : Nat → Int) (hE : twE T n f ≠ 0) (w : World) (hd : TeAt w v T) (ht : NumsAt w vt n f) : Calls Try.prog 13 #[v, vt] w fun e w' => e = .returned (.tuple #[.slice none 0 0, .int .i64 (twE T n f)]) ∧ Below w.heap.size w w' := by
  have HW := (show Hid (∀ W, Below w.heap.size w W → Calls Try.prog 8 #[v] W fun e w' => e = .returned (.int .i64 (teE T)) ∧ Below W.heap.size W w') from fun W hb => ptw_any v T W (hd.below hb))
  have HF := (show Hid (∀ W, Below w.heap.size w W → Calls Try.prog 26 #[vt] W fun e w' => e = .returned (.int .i64 (faE n f)) ∧ W = w') from fun W hb => ptx_any vt n f W (ht.below hb))
  obtain ⟨R, rfl, _⟩ := hd
  obtain ⟨at', ct, rfl, _⟩ := ht
  have h0 := TgAt.new w R T.pl
  by_cases hz : teE T = 0
  · have HE : Hid (twE T n f = faE n f) := by unfold twE; rw [Hid, if_neg (fun h => h hz)]
    rw [HE.out] at hE
    have hz2 : (faE n f != 0) = true := by simpa using hE
    rw [hz] at HW
    clear hE hz
    obtain ⟨E, hEE⟩ : ∃ E, E = faE n f := ⟨_, rfl⟩
    rw [← hEE] at HF HE hz2
    clear hEE
    go_enter Try.func13, Try.ntmps13
    go_wp2_with (first | refine wpList_load_row rfl 27 _ rfl w.heap.size rfl 27 (teA R T.pl) (0, 0) _ h0.row Try.underlying27 rfl (by rw [teA_size]; exact t_info_tele) ?_)
    refine (HW.out _ h0.below).mono ?_
    rintro e W1 ⟨rfl, hb⟩
    have HBE := (show Hid _ from (h0.step hb).below)
    clear hb h0 HW
    go_wp2_with fail
    refine (HF.out _ HBE.out).mono ?_
    rintro e W2 ⟨rfl, rfl⟩
    clear HF
    go_wp2
    go_ret2
    exact ⟨by rw [HE.out]; rfl, HBE.out⟩
  · have HE : Hid (twE T n f = teE T) := by unfold twE; rw [Hid, if_pos hz]
    have hz2 : (teE T != 0) = true := by simpa using hz
    clear hE hz HF
    obtain ⟨E, hEE⟩ : ∃ E, E = teE T := ⟨_, rfl⟩
    rw [← hEE] at HW HE hz2
    clear hEE
    go_enter Try.func13, Try.ntmps13
    go_wp2_with (first | refine wpList_load_row rfl 27 _ rfl w.heap.size rfl 27 (teA R T.pl) (0, 0) _ h0.row Try.underlying27 rfl (by rw [teA_size]; exact t_info_tele) ?_)
    refine (HW.out _ h0.below).mono ?_
    rintro e W1 ⟨rfl, hb⟩
    have HBE := (show Hid _ from (h0.step hb).below)
    clear hb h0 HW
    go_wp2
    go_ret2
    exact ⟨by rw [HE.out]; rfl, HBE.out⟩
/-- The first m are added. -/
def wrF (T : Te) (f : Nat → Int) (m : Nat) : Nat → Int := fun k => if k < m then wrN T f k else ((keyN T k : Nat) : Int)
theorem wrF_start (T : Te) (f : Nat → Int) (n : Nat) : (ints n fun i => ((keyN T i : Nat) : Int)) = ints n (wrF T f 0) := ints_ext fun i _ => by unfold wrF; rw [if_neg (by omega)]
theorem wrF_next (T : Te) (f : Nat → Int) (n m : Nat) : ints n (upd (wrF T f m) m (wrN T f m)) = ints n (wrF T f (m + 1)) := ints_ext fun i hi => by
  unfold upd
  by_cases e : i = m
  · rw [if_pos e]
    unfold wrF
    rw [if_pos (by omega), e]
  · rw [if_neg e]
    unfold wrF
    by_cases e2 : i < m
    · rw [if_pos e2, if_pos (by omega)]
    · rw [if_neg e2, if_neg (by omega)]
theorem wrF_all (T : Te) (f : Nat → Int) (n : Nat) : ints n (wrF T f n) = ints n (wrN T f) := ints_ext fun i hi => by
  unfold wrF
  rw [if_pos hi]
theorem wrF_at (T : Te) (f : Nat → Int) (i : Nat) : wrF T f i i = ((keyN T i : Nat) : Int) := by unfold wrF; rw [if_neg (by omega)]
set_option maxRecDepth 100000 in
set_option maxHeartbeats 4000000 in
theorem pwt_ok (v vt : Value) (T : Te) (n : Nat) (f : Nat → Int) (hz : teE T = 0) (hE : faE n f = 0) (w : World) (hd : TeAt w v T) (ht : NumsAt w vt n f) : Calls Try.prog 13 #[v, vt] w fun e w' => ∃ g, e = .returned (.tuple #[.slice (some ⟨g, 0, none⟩) n n, .int .i64 0]) ∧ RowAt w' g 3 (ints n (wrN T f)) ∧ Below w.heap.size w w' := by
  have HW := (show Hid (∀ W, Below w.heap.size w W → Calls Try.prog 8 #[v] W fun e w' => e = .returned (.int .i64 0) ∧ Below W.heap.size W w') from fun W hb => by have := ptw_any v T W (hd.below hb); rw [hz] at this; exact this)
  have HF := (show Hid (∀ W, Below w.heap.size w W → Calls Try.prog 26 #[vt] W fun e w' => e = .returned (.int .i64 0) ∧ W = w') from fun W hb => by have := ptx_any vt n f W (ht.below hb); rw [hE] at this; exact this)
  obtain ⟨hn, hf⟩ := faE_zero hE
  have HK := (show Hid (∀ W, Below w.heap.size w W → Calls Try.prog 10 #[v, .int .i64 (n : Nat)] W fun e w' => ∃ g, e = .returned (.tuple #[.slice (some ⟨g, 0, none⟩) n n, .int .i64 0]) ∧ RowAt w' g 3 (ints n fun i => ((keyN T i : Nat) : Int)) ∧ W.heap.size ≤ g ∧ Below W.heap.size W w') from fun W hb => pky_ok v T hz n hn W (hd.below hb))
  obtain ⟨R, rfl, _⟩ := hd
  obtain ⟨at', ct, rfl, _, hca⟩ := ht
  have HA := (show Hid (∀ c, c < n → ∃ b o, at' = some ⟨b, o, none⟩ ∧ w.cell? ⟨b, o + c, none⟩ = some (.int .i64 (f c))) from hca)
  have HFA := (show Hid _ from hf)
  have h0 := TgAt.new w R T.pl
  clear hz hE hf hca
  go_enter Try.func13, Try.ntmps13
  go_wp2_with (first | refine wpList_load_row rfl 27 _ rfl w.heap.size rfl 27 (teA R T.pl) (0, 0) _ h0.row Try.underlying27 rfl (by rw [teA_size]; exact t_info_tele) ?_)
  refine (HW.out _ h0.below).mono ?_
  rintro e W1 ⟨rfl, hb⟩
  have h1 := h0.step hb
  clear hb h0 HW
  go_wp2_with fail
  refine (HF.out _ h1.below).mono ?_
  rintro e W2 ⟨rfl, rfl⟩
  clear HF
  go_wp2_with (first | refine wpList_load_row rfl 27 _ rfl w.heap.size rfl 27 (teA R T.pl) (0, 0) _ h1.row Try.underlying27 rfl (by rw [teA_size]; exact t_info_tele) ?_)
  refine (HK.out _ h1.below).mono ?_
  rintro e W3 ⟨g, rfl, hro, hgl, hb⟩
  have h3 := h1.step hb
  have hgw : w.heap.size < g := Nat.lt_of_lt_of_le h1.lt hgl
  rw [wrF_start T f] at hro
  have hbe := h3.below
  clear hb h1 h3 HK hgl
  go_wp2_with fail
  go_loopw [31] (fun x W => ∃ i : Nat, i ≤ n ∧ x = .int .i64 (i : Nat) ∧ RowAt W g 3 (ints n (wrF T f i)) ∧ Below w.heap.size w W) (fun x _ => ((n : Int) - intOf x).toNat)
  case atStart => exact ⟨0, by omega, rfl, hro, hbe⟩
  case round =>
    clear hro hbe
    obtain ⟨i, hi, rfl, hro, hbe⟩ := hrel
    by_cases hlt : i < n
    case neg =>
      obtain rfl : i = n := by omega
      have hnn : ¬ ((i : Nat) : Int) < ((i : Nat) : Int) := by omega
      rw [wrF_all] at hro
      have HRO := (show Hid _ from hro)
      have HBE := (show Hid _ from hbe)
      clear hro hbe hlt
      go_wp2
      go_ret2
      exact ⟨g, by first | rfl | trivial, HRO.out, HBE.out⟩
    have HLT : Hid (i < n) := hlt
    have hlt2 : (i : Int) < (n : Int) := by omega
    obtain ⟨b1, o1, e1, c1⟩ := HA.out i hlt
    subst e1
    have d1 := (hbe.cell (p := ⟨b1, o1 + i, none⟩) (cell_block c1)).trans c1
    have hf1 := HFA.out i hlt
    have hcell := hro.cell (ints_get (wrF T f i) hlt)
    rw [wrF_at] at hcell
    have hfz := hro.frozen i
    have HST := (show Hid _ from wrF_next T f n i)
    have hde : wrN T f i = (((f i).toNat ^^^ keyN T i : Nat) : Int) := rfl
    have hkl := keyN_lt T i
    obtain ⟨x, hx⟩ : ∃ x : Nat, x = (f i).toNat := ⟨_, rfl⟩
    rw [show f i = ((x : Nat) : Int) by omega] at d1
    rw [hde, ← hx, Nat.xor_comm] at HST
    generalize keyN T i = y at *
    have hbx := bits_xor (a := y) (b := x) (by omega) (by omega)
    generalize y ^^^ x = z at *
    have HN : Hid (RowAt (wr.setCell ⟨g, i, none⟩ (.int .i64 (z : Nat))) g 3 (ints n (wrF T f (i + 1))) ∧ Below w.heap.size w (wr.setCell ⟨g, i, none⟩ (.int .i64 (z : Nat)))) := by
      refine ⟨?_, hbe.setCell (p := ⟨g, i, none⟩) (by show w.heap.size ≤ g; omega) _⟩
      have h1 := hro.set i (.int .i64 (z : Nat))
      rw [ints_set, HST.out] at h1
      exact h1
    clear hlt c1 hx hf1 hde HST hro hbe HA HFA
    go_wp2
    go_roundw
    case rel => exact ⟨i + 1, HLT.out, by go_num, HN.out.1, HN.out.2⟩
    case measure => have := HLT.out; simp [intOf]; omega
end Go.Proofs.Ytbcjblakknfhmaa
