/-
  Contract of the document's Write (chapter 13).
-/
import Derived.Test.YtbcjblakknfhmaaTeKy
namespace Go.Proofs.Ytbcjblakknfhmaa
open Go.RowKit PK Tl

set_option maxRecDepth 100000 in
set_option maxHeartbeats 4000000 in
theorem rwt_bad (v vt : Value) (T : Te) (n : Nat) (f : Nat → Int) (hE : twE T n f ≠ 0) (w : World) (hd : TeAt w v T) (ht : NumsAt w vt n f) : Calls Try.prog 14 #[v, vt] w fun e w' => e = .returned (.tuple #[.slice none 0 0, .int .i64 (twE T n f)]) ∧ Below w.heap.size w w' := by
  have HW := (show Hid (∀ W, Below w.heap.size w W → Calls Try.prog 9 #[v] W fun e w' => e = .returned (.int .i64 (teE T)) ∧ Below W.heap.size W w') from fun W hb => rtw_any v T W (hd.below hb))
  have HF := (show Hid (∀ W, Below w.heap.size w W → Calls Try.prog 27 #[vt] W fun e w' => e = .returned (.int .i64 (faE n f)) ∧ W = w') from fun W hb => rfair_any vt n f W (ht.below hb))
  obtain ⟨R, rfl, _⟩ := hd
  obtain ⟨at', ct, rfl, _⟩ := ht
  have h0 := TgAt.new w R T.pl
  by_cases hz : teE T = 0
  · have HE : Hid (twE T n f = faE n f) := by unfold twE; rw [Hid, if_neg (fun h => h hz)]
    rw [HE.out] at hE
    have hz2 : (faE n f != 0) = true := by simpa using hE
    rw [hz] at HW
    clear hE hz
    obtain ⟨E, hEE⟩ : ∃ E, E = faE n f := ⟨_, rfl⟩
    rw [← hEE] at HF HE hz2
    clear hEE
    go_enter Try.func14, Try.ntmps14
    go_wp2_with (first | refine wpList_load_row rfl 27 _ rfl w.heap.size rfl 27 (teA R T.pl) (0, 0) _ h0.row Try.underlying27 rfl (by rw [teA_size]; exact t_info_tele) ?_)
    refine (HW.out _ h0.below).mono ?_
    rintro e W1 ⟨rfl, hb⟩
    have HBE := (show Hid _ from (h0.step hb).below)
    clear hb h0 HW
    go_wp2_with fail
    refine (HF.out _ HBE.out).mono ?_
    rintro e W2 ⟨rfl, rfl⟩
    clear HF
    go_wp2
    go_ret2
    exact ⟨by rw [HE.out]; rfl, HBE.out⟩
  · have HE : Hid (twE T n f = teE T) := by unfold twE; rw [Hid, if_pos hz]
    have hz2 : (teE T != 0) = true := by simpa using hz
    clear hE hz HF
    obtain ⟨E, hEE⟩ : ∃ E, E = teE T := ⟨_, rfl⟩
    rw [← hEE] at HW HE hz2
    clear hEE
    go_enter Try.func14, Try.ntmps14
    go_wp2_with (first | refine wpList_load_row rfl 27 _ rfl w.heap.size rfl 27 (teA R T.pl) (0, 0) _ h0.row Try.underlying27 rfl (by rw [teA_size]; exact t_info_tele) ?_)
    refine (HW.out _ h0.below).mono ?_
    rintro e W1 ⟨rfl, hb⟩
    have HBE := (show Hid _ from (h0.step hb).below)
    clear hb h0 HW
    go_wp2
    go_ret2
    exact ⟨by rw [HE.out]; rfl, HBE.out⟩
/-- What becomes of the first m letters. -/
def wrL (T : Te) (f : Nat → Int) (m : Nat) : List Nat := (List.range m).map fun i => (f i).toNat ^^^ keyN T i
theorem wrL_len (T : Te) (f : Nat → Int) (m : Nat) : (wrL T f m).length = m := by simp [wrL]
theorem wrL_succ (T : Te) (f : Nat → Int) (m : Nat) : wrL T f (m + 1) = wrL T f m ++ [(f m).toNat ^^^ keyN T m] := by
  unfold wrL
  rw [List.range_succ, List.map_append]
  rfl
theorem wrL_get (T : Te) (f : Nat → Int) {n i : Nat} (h : i < n) : (((wrL T f n).getD i 0 : Nat) : Int) = wrN T f i := by
  unfold wrL wrN
  simp only [List.getD_eq_getElem?_getD, List.getElem?_map, List.getElem?_range h, Option.map_some, Option.getD_some]
set_option maxRecDepth 100000 in
set_option maxHeartbeats 4000000 in
theorem rwt_ok (v vt : Value) (T : Te) (n : Nat) (f : Nat → Int) (hz : teE T = 0) (hE : faE n f = 0) (w : World) (hd : TeAt w v T) (ht : NumsAt w vt n f) : Calls Try.prog 14 #[v, vt] w fun e w' => ∃ v', e = .returned (.tuple #[v', .int .i64 0]) ∧ OwnsL w' w.heap.size v' (wrL T f n) ∧ Below w.heap.size w w' := by
  have HW := (show Hid (∀ W, Below w.heap.size w W → Calls Try.prog 9 #[v] W fun e w' => e = .returned (.int .i64 0) ∧ Below W.heap.size W w') from fun W hb => by have := rtw_any v T W (hd.below hb); rw [hz] at this; exact this)
  have HF := (show Hid (∀ W, Below w.heap.size w W → Calls Try.prog 27 #[vt] W fun e w' => e = .returned (.int .i64 0) ∧ W = w') from fun W hb => by have := rfair_any vt n f W (ht.below hb); rw [hE] at this; exact this)
  obtain ⟨hn, hf⟩ := faE_zero hE
  obtain ⟨i0, hi0, hz0, hz1, hz2⟩ := x_info_parts g_info_int
  have HK := (show Hid (∀ W, Below w.heap.size w W → Calls Try.prog 11 #[v, .int .i64 (n : Nat)] W fun e w' => ∃ v', e = .returned (.tuple #[v', .int .i64 0]) ∧ NumsAt w' v' n (fun i => ((keyN T i : Nat) : Int)) ∧ Below W.heap.size W w') from fun W hb => by
    refine (rky_ok v T hz n hn W (hd.below hb)).mono ?_
    rintro e w' ⟨v', h1, h2, h3⟩
    refine ⟨v', h1, ?_, h3⟩
    have h4 := h2.nums
    rw [kyL_len] at h4
    exact h4.congr fun c hc => by rw [kyL_get T hc])
  obtain ⟨R, rfl, _⟩ := hd
  obtain ⟨at', ct, rfl, _, hca⟩ := ht
  have HA := (show Hid (∀ c, c < n → ∃ b o, at' = some ⟨b, o, none⟩ ∧ w.cell? ⟨b, o + c, none⟩ = some (.int .i64 (f c))) from hca)
  have HFA := (show Hid _ from hf)
  have h0 := TgAt.new w R T.pl
  clear hz hE hf hca
  go_enter Try.func14, Try.ntmps14
  go_wp2_with (first | refine wpList_load_row rfl 27 _ rfl w.heap.size rfl 27 (teA R T.pl) (0, 0) _ h0.row Try.underlying27 rfl (by rw [teA_size]; exact t_info_tele) ?_)
  refine (HW.out _ h0.below).mono ?_
  rintro e W1 ⟨rfl, hb⟩
  have h1 := h0.step hb
  clear hb h0 HW
  go_wp2_with fail
  refine (HF.out _ h1.below).mono ?_
  rintro e W2 ⟨rfl, rfl⟩
  clear HF
  go_wp2_with (first | refine wpList_load_row rfl 27 _ rfl w.heap.size rfl 27 (teA R T.pl) (0, 0) _ h1.row Try.underlying27 rfl (by rw [teA_size]; exact t_info_tele) ?_)
  refine (HK.out _ h1.below).mono ?_
  rintro e W3 ⟨vk, rfl, hk, hb⟩
  have h3 := h1.step hb
  have hbe := h3.below
  obtain ⟨ak, ck, rfl, _, hck⟩ := hk
  have HKC := (show Hid (∀ c, c < n → ∃ b o, ak = some ⟨b, o, none⟩ ∧ W3.cell? ⟨b, o + c, none⟩ = some (.int .i64 ((keyN T c : Nat) : Int))) from hck)
  have hsz := h3.lt
  clear hb h1 h3 HK hck
  go_wp2_with fail
  go_loopw [10, 32] (fun o x W => ∃ (i : Nat) (u : Value), i ≤ n ∧ x = .int .i64 (i : Nat) ∧ u = o ∧ OwnsL W W3.heap.size u (wrL T f i) ∧ Below W3.heap.size W3 W) (fun _ x _ => ((n : Int) - intOf x).toNat)
  case atStart => exact ⟨0, _, by omega, rfl, rfl, OwnsL.nil _ _, Below.refl _ _⟩
  case round =>
    obtain ⟨i, u, hi, rfl, rfl, hown, hbw⟩ := hrel
    by_cases hlt : i < n
    case neg =>
      obtain rfl : i = n := by omega
      have hnn : ¬ ((i : Nat) : Int) < ((i : Nat) : Int) := by omega
      have HOWN := (show Hid (OwnsL wr w.heap.size u (wrL T f i)) from ⟨hown.1, hown.2.imp id fun ⟨g, cap, cur, a, b, c⟩ => ⟨g, cap, cur, a, by omega, c⟩⟩)
      have HB := (show Hid (Below w.heap.size w wr) from hbe.trans (hbw.mono hbe.size))
      clear hown hbe hbw hlt
      go_wp2
      go_ret2
      exact ⟨u, by first | rfl | trivial, HOWN.out, HB.out⟩
    have HLT : Hid (i < n) := hlt
    have hlt2 : (i : Int) < (n : Int) := by omega
    have hlen := wrL_len T f i
    have HNX := (show Hid _ from wrL_succ T f i)
    obtain ⟨b1, o1, e1, c1⟩ := HA.out i hlt
    obtain ⟨b2, o2, e2, c2⟩ := HKC.out i hlt
    subst e1
    subst e2
    have hbb := hbe.trans (hbw.mono hbe.size)
    have d1 := (hbb.cell (p := ⟨b1, o1 + i, none⟩) (cell_block c1)).trans c1
    have d2 := (hbw.cell (p := ⟨b2, o2 + i, none⟩) (cell_block c2)).trans c2
    have hf1 := HFA.out i hlt
    have hkl := keyN_lt T i
    obtain ⟨x, hx⟩ : ∃ x : Nat, x = (f i).toNat := ⟨_, rfl⟩
    rw [show f i = ((x : Nat) : Int) by omega] at d1
    rw [← hx] at HNX
    have hx32 : x < 32 := by omega
    generalize keyN T i = y at *
    have HCA := (show Hid (Calls Try.prog 28 #[.int .i64 (x : Nat), .int .i64 (y : Nat)] wr fun e w' => e = .returned (.int .i64 ((x ^^^ y : Nat) : Int)) ∧ Below wr.heap.size wr w') from rsum_any x y hx32 hkl wr)
    have hxy := xor_lt32 hx32 hkl
    generalize x ^^^ y = z at *
    have HOWN := (show Hid (OwnsL wr W3.heap.size u (wrL T f i)) from hown)
    have HBW := (show Hid (Below W3.heap.size W3 wr) from hbw)
    clear hlt hown hbe hbw hbb c1 c2 hx hf1 HA HKC HFA
    go_wp2_with fail
    refine Calls.mono HCA.out ?_
    rintro e Y ⟨rfl, hb⟩
    have hown := OwnsL.below HOWN.out hb
    have hbY := HBW.out.trans (hb.mono HBW.out.size)
    have hzY := hbY.size
    have HBY := (show Hid _ from hbY)
    clear hb HCA HBW HOWN d1 d2 hbY
    go_wp2_with (first | (at_builtin; refine wpList_append_own _ rfl _ _ 28 rfl W3.heap.size 3 i0 (.int .i64 0) 1 8 Try.underlying28 hi0 hz0 hz1 hz2 rfl (by decide) _ _ _ rfl (World.ownsRow.alloc hown _) ⟨Y.heap.size, 0, none⟩ 1 1 [.int .i64 (z : Nat)] rfl rfl (cell_one_new _ _ _) (fun u hu => by simp at hu; subst hu; rfl) (by unfold maxLen; omega) (by omega) (by simp; omega) ?_; intro v' w1 hown' hgrow _))
    go_roundw
    case rel =>
      refine ⟨i + 1, v', HLT.out, by go_num, by first | rfl | trivial, ?_, ?_⟩
      · rw [HNX.out, OwnsL, nnums_append, List.length_append]
        exact hown'
      · exact (HBY.out.alloc HBY.out.size _).grown hgrow (by simp; omega) (fun p hp => (World.ownsRow.lt hown p hp).1)
    case measure => have := HLT.out; simp [intOf]; omega
end Go.Proofs.Ytbcjblakknfhmaa
