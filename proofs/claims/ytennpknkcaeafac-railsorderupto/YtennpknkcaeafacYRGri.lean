/-
  Contract of the document's own Grille.
-/
import Derived.Test.YtennpknkcaeafacGMath2
import Derived.Test.YtennpknkcaeafacYNums
import Derived.Test.YtennpknkcaeafacYGri
import Derived.Test.YtennpknkcaeafacYPut
namespace Go.Proofs.Ytennpknkcaeafac
open Go.RowKit PK Sm

set_option maxRecDepth 100000 in
set_option maxHeartbeats 1000000 in
theorem rturned_any (s p : Nat) (h2 : 2 ≤ s) (h16 : s ≤ 16) (hp : p < s * s) (w : World) :
    Calls Try.prog 36 #[.int .i64 (s : Nat), .int .i64 (p : Nat)] w fun e w' => e = .returned (.int .i64 (Gm.tn s p : Nat)) ∧ Below w.heap.size w w' := by
  have hy := (Gm.place_yx hp).1
  have hx := (Gm.place_yx hp).2.1
  have HV : Hid (Gm.tn s p = p % s * s + (s - 1 - p / s)) := rfl
  have e1 : ((p : Nat) : Int) / ((s : Nat) : Int) = ((p / s : Nat) : Int) := by omega
  have e2 : ((p : Nat) : Int) % ((s : Nat) : Int) = ((p % s : Nat) : Int) := by omega
  have hss : s * s ≤ 256 := Nat.mul_le_mul h16 h16
  have hp2 : p < 256 := by omega
  generalize p / s = y at *
  generalize p % s = x at *
  have hne : (((s : Nat) : Int) == 0) = false := by simp; omega
  obtain ⟨xs, hxs⟩ : ∃ xs, xs = x * s := ⟨_, rfl⟩
  have e3 : ((x : Nat) : Int) * ((s : Nat) : Int) = ((xs : Nat) : Int) := by rw [hxs]; simp
  have hxb : xs ≤ 256 := by
    rw [hxs]
    exact Nat.mul_le_mul (show x ≤ 16 by omega) h16
  have HV2 : Hid (((Gm.tn s p : Nat) : Int) = ((xs : Nat) : Int) + (((s : Nat) : Int) - 1 - ((y : Nat) : Int))) := by rw [Hid, HV.out, ← hxs]; omega
  clear hxs hss hp HV
  go_enter Try.func36, Try.ntmps36
  go_wp2
  go_region
  all_goals go_wp2
  all_goals go_ret
  all_goals exact ⟨ret_int HV2.out.symm, (Below.refl _ _).drew⟩
theorem rgrille_side (sd : Int) (h : sd < 2 ∨ 16 < sd ∨ sd % 2 ≠ 0) (v : Value) (n : Nat) (f : Nat → Int) (w : World) (hv : NumsAt w v n f) :
    Calls Try.prog 14 #[.int .i64 sd, v] w fun e w' => e = .returned (.tuple #[.slice none 0 0, .int .i64 3]) ∧ Below w.heap.size w w' := by
  obtain ⟨a, cap, rfl, _⟩ := hv.len
  clear hv
  by_cases h1 : sd < 2
  · clear h
    go_enter Try.func14, Try.ntmps14
    go_wp2
    go_ret2
    exact ⟨rfl, Below.refl _ _⟩
  · by_cases h2 : 16 < sd
    · clear h
      go_enter Try.func14, Try.ntmps14
      go_wp2
      go_ret2
      exact ⟨rfl, Below.refl _ _⟩
    · have h3 : sd % 2 = 1 := by omega
      clear h
      go_enter Try.func14, Try.ntmps14
      go_wp2
      go_ret2
      exact ⟨rfl, Below.refl _ _⟩
/-- Where the holes are after t turns. -/
def nowL (s : Nat) (h : Nat → Nat) (n t : Nat) : List Nat := (List.range n).map fun j => Qm.it (Gm.tn s) t (h j)
theorem nowL_len (s : Nat) (h : Nat → Nat) (n t : Nat) : (nowL s h n t).length = n := by simp [nowL]
theorem nowL_get (s : Nat) (h : Nat → Nat) {n : Nat} (t : Nat) {j : Nat} (hj : j < n) : (nowL s h n t).getD j 0 = Qm.it (Gm.tn s) t (h j) := by simp [nowL, List.getD, hj]
theorem nowL_step (s : Nat) (h : Nat → Nat) (J t : Nat) : nowL s h (J + 1) t = nowL s h J t ++ [Qm.it (Gm.tn s) t (h J)] := by unfold nowL; rw [List.range_succ, List.map_append]; rfl
theorem OwnsL.formN {w : World} {B : Nat} {v : Value} {l : List Nat} (h : OwnsL w B v l) {n : Nat} (hn : l.length = n) : ∃ a c, v = .slice a n c := by
  obtain ⟨a, c, e⟩ := h.form
  exact ⟨a, c, by rw [e, hn]⟩
theorem OwnsL.mono {w : World} {B B' : Nat} {v : Value} {l : List Nat} (h : OwnsL w B v l) (hb : B' ≤ B) : OwnsL w B' v l :=
  ⟨h.1, h.2.imp id fun ⟨g, cap, cur, a, b, c⟩ => ⟨g, cap, cur, a, Nat.le_trans hb b, c⟩⟩
theorem addr_add (b o j : Nat) : (⟨b, o, none⟩ : Addr).add j = ⟨b, o + j, none⟩ := by unfold Addr.add; by_cases e0 : j = 0 <;> simp [e0]
theorem ap_symm {a b : Option Nat} (h : a = none ∨ a ≠ b) : b = none ∨ b ≠ a := by
  cases b with
  | none => exact .inl rfl
  | some x =>
    right
    intro e
    rcases h with h | h
    · rw [h] at e; cases e
    · exact h e.symm
/-- What the document's Grille answers to a sheet of s rows. -/
def RGriOut (n : Nat) (f : Nat → Int) (s : Nat) (e : Ending) (w' : World) : Prop :=
  (e = .returned (.tuple #[.slice none 0 0, .int .i64 3]) ∧ ∃ j, j < n ∧ (f j < 0 ∨ ((s * s : Nat) : Int) ≤ f j)) ∨
  ((∀ j, j < n → 0 ≤ f j ∧ f j < ((s * s : Nat) : Int)) ∧
    ((¬ Gm.Right s (natF f) n ∧ e = .returned (.tuple #[.slice none 0 0, .int .i64 8])) ∨
     (Gm.Right s (natF f) n ∧ ∃ (v : Value) (B : Nat), e = .returned (.tuple #[v, .int .i64 0]) ∧ OwnsL w' B v (Gm.outL s (natF f) n 4))))
set_option maxRecDepth 100000 in
set_option maxHeartbeats 8000000 in
theorem rgrille_any (v : Value) (n : Nat) (hn : n ≤ 1048576) (f : Nat → Int) (s : Nat) (h2 : 2 ≤ s) (h16 : s ≤ 16) (hev : s % 2 = 0) (w : World) (hv : NumsAt w v n f) (hv0 : ∀ m c, v = .slice none m c → c = 0) :
    Calls Try.prog 14 #[.int .i64 (s : Nat), v] w fun e w' => RGriOut n f s e w' ∧ Below w.heap.size w w' := by
  obtain ⟨i0, hi0, hz0, hz1, hz2⟩ := y_info_parts y_info_int
  have hevI : ((s : Nat) : Int) % 2 = 0 := by omega
  unfold RGriOut
  obtain ⟨S, hS⟩ : ∃ S, S = s * s := ⟨_, rfl⟩
  have HSS : Hid (S = s * s) := hS
  have eS : ((s : Nat) : Int) * ((s : Nat) : Int) = ((S : Nat) : Int) := by rw [hS]; simp
  have hSb : S ≤ 256 := by rw [hS]; exact Nat.mul_le_mul h16 h16
  rw [← hS]
  obtain ⟨a, cap, rfl, hm, hc⟩ := hv
  have HC := (show Hid (∀ c, c < n → ∃ b o, a = some ⟨b, o, none⟩ ∧ w.cell? ⟨b, o + c, none⟩ = some (.int .i64 (f c))) from hc)
  have HV0 := (show Hid (a = none → cap = 0) from fun e => hv0 n cap (by rw [e]))
  clear hc hS hev hm hv0
  go_enter Try.func14, Try.ntmps14
  go_wp2
  go_loop [30] (fun i => ∃ j : Nat, j ≤ n ∧ i = .int .i64 j ∧ Hid (∀ k, k < j → 0 ≤ f k ∧ f k < ((S : Nat) : Int))) (fun i => ((n : Int) - intOf i).toNat)
  case atStart => exact ⟨0, by omega, rfl, fun m hm => by omega⟩
  case round =>
    obtain ⟨j, hj, rfl, HS⟩ := hrel
    by_cases hlt : j < n
    · obtain ⟨b, o, e9, hcell⟩ := HC.out j hlt
      subst e9
      by_cases hx : f j < 0 ∨ ((S : Nat) : Int) ≤ f j
      · have HX := (show Hid (∃ j, j < n ∧ (f j < 0 ∨ ((S : Nat) : Int) ≤ f j)) from ⟨j, hlt, hx⟩)
        generalize f j = x at hcell hx
        rcases hx with hx | hx
        · go_wp2
          go_ret2
          exact ⟨.inl ⟨rfl, HX.out⟩, Below.refl _ _⟩
        · have hx0 : ¬ x < 0 := by omega
          go_wp2
          go_ret2
          exact ⟨.inl ⟨rfl, HX.out⟩, Below.refl _ _⟩
      · have HN := (show Hid (∀ k, k < j + 1 → 0 ≤ f k ∧ f k < ((S : Nat) : Int)) from fun k hk => by
          by_cases e : k = j
          · rw [e]; omega
          · exact HS.out k (by omega))
        have h5 : ¬ f j < 0 := by omega
        have h6 : ¬ ((S : Nat) : Int) ≤ f j := by omega
        generalize f j = x at hcell h5 h6
        clear hx
        go_wp2
        exact ⟨⟨j + 1, by omega, by go_num, HN⟩, by simp [intOf]; omega⟩
    · have HALL := (show Hid (∀ k, k < n → 0 ≤ f k ∧ f k < ((S : Nat) : Int)) from fun k hk => HS.out k (by omega))
      have HH := (show Hid (∀ k, k < n → natF f k < s * s) from fun k hk => by have := HALL.out k hk; rw [← HSS.out]; unfold natF; omega)
      have HF2 := (show Hid (∀ k, k < n → f k = (natF f k : Nat)) from fun k hk => by have := HALL.out k hk; unfold natF; omega)
      clear HS
      obtain ⟨h, hnf⟩ : ∃ h, h = natF f := ⟨_, rfl⟩
      rw [← hnf] at HH HF2
      have HNF : Hid (h = natF f) := hnf
      clear hnf
      have hown0 := World.ownsRow_lit (base := w.heap.size) (e := 3) (size := 1) w #[] 0 (Nat.le_refl _) (by decide) rfl
      have hbB := (Below.refl w.heap.size w).alloc (Nat.le_refl _) (.cells #[] 3)
      cases a with
      | none =>
        have hn0 : n = 0 := by
          rcases Nat.eq_zero_or_pos n with e | e
          · exact e
          · obtain ⟨b, o, e9, _⟩ := HC.out 0 e
            cases e9
        have HN0 : Hid (n = 0) := hn0
        have HCAP : Hid (cap = 0) := HV0.out rfl
        clear hn0
        go_wp2_with (at_builtin; refine wpList_append_own_none rfl _ _ 22 rfl w.heap.size 3 i0 1 Try.underlying22 hi0 _ _ _ rfl hown0 (by have e0 : Value.slice none n cap = .slice none 0 0 := (by rw [HN0.out, HCAP.out]); exact e0) ?_)
        have HN5 := (show Hid (OwnsL (w.alloc (.cells #[] 3)) w.heap.size (.slice (some ⟨w.heap.size, 0, none⟩) 0 0) (nowL s h n 0)) from by rw [HN0.out]; exact hown0)
        have hb5 := hbB
        clear hown0 hbB HN0 HCAP
        clear HC HV0
        have hzw5 := hb5.size
        go_loopw [10, 9, 8] (fun x nw o W => ∃ T : Nat, T ≤ 4 ∧ x = .int .i64 T ∧ OwnsL W w.heap.size nw (nowL s h n T) ∧ OwnsL W w.heap.size o (Gm.outL s h n T) ∧ Hid (o.ownBlock = none ∨ o.ownBlock ≠ nw.ownBlock) ∧ Below w.heap.size w W) (fun x _ _ _ => (4 - intOf x).toNat)
        case atStart => exact ⟨0, by omega, rfl, HN5.out, OwnsL.nil _ _, .inl rfl, hb5⟩
        case round =>
          clear hb5 HN5 hzw5
          obtain ⟨T, hT, rfl, hnow, hout, HAP, hb⟩ := hrel
          by_cases hT4 : T < 4
          · obtain ⟨an, cn, rfl⟩ := hnow.formN (nowL_len s h n T)
            have hT4I : ((T : Nat) : Int) < 4 := by omega
            go_wp2
            go_loopw [11, 8] (fun x o W => ∃ H : Nat, H ≤ S ∧ x = .int .i64 H ∧ OwnsL W w.heap.size (.slice an n cn) (nowL s h n T) ∧ OwnsL W w.heap.size o (Gm.outL s h n T ++ Gm.rowL s h n T H) ∧ Hid (o.ownBlock = none ∨ o.ownBlock ≠ (Value.slice an n cn).ownBlock) ∧ Below w.heap.size w W) (fun x _ _ => ((S : Int) - intOf x).toNat)
            case atStart => exact ⟨0, by omega, rfl, hnow, by rw [show Gm.rowL s h n T 0 = [] from rfl, List.append_nil]; exact hout, HAP, hb⟩
            case round =>
              clear hnow hout HAP hb
              obtain ⟨H, hH, rfl, hnow, hout, HAP, hb⟩ := hrel
              by_cases hHS : H < S
              · have HLB := (show Hid ((Gm.outL s h n T ++ Gm.rowL s h n T H).length ≤ 1342177280) from by
                  have q1 := Gm.outL_len s h n T
                  have q2 := Gm.rowL_len s h n T H
                  have q3 : T * (s * s * n) ≤ 4 * (256 * 1048576) := Nat.mul_le_mul (by omega) (Nat.mul_le_mul (by rw [← HSS.out]; exact hSb) hn)
                  have q4 : H * n ≤ 256 * 1048576 := Nat.mul_le_mul (by omega) hn
                  rw [Hid, List.length_append]; omega)
                have HST := (show Hid (Gm.outL s h n T ++ Gm.rowL s h n T (H + 1) = (Gm.outL s h n T ++ Gm.rowL s h n T H) ++ Gm.repL s h T H n) from by rw [Hid, Gm.rowL_step, List.append_assoc])
                generalize Gm.outL s h n T ++ Gm.rowL s h n T H = acc at *
                go_wp2
                go_loopw [60, 8] (fun x o W => ∃ J : Nat, J ≤ n ∧ x = .int .i64 J ∧ OwnsL W w.heap.size (.slice an n cn) (nowL s h n T) ∧ OwnsL W w.heap.size o (acc ++ Gm.repL s h T H J) ∧ Hid (o.ownBlock = none ∨ o.ownBlock ≠ (Value.slice an n cn).ownBlock) ∧ Below w.heap.size w W) (fun x _ _ => ((n : Int) - intOf x).toNat)
                case atStart => exact ⟨0, by omega, rfl, hnow, by rw [show Gm.repL s h T H 0 = [] from rfl, List.append_nil]; exact hout, HAP, hb⟩
                case round =>
                  clear hnow hout HAP hb
                  obtain ⟨J, hJ, rfl, hnow, hout, HAP, hb⟩ := hrel
                  have hzb := hb.size
                  by_cases hJn : J < n
                  · have hnm := hnow.nums
                    rw [nowL_len] at hnm
                    obtain ⟨an', cn', e9, _, hcells⟩ := hnm
                    cases e9
                    obtain ⟨b9, o9, e8, hcell⟩ := hcells J hJn
                    replace hcell : wr.cell? ⟨b9, o9 + J, none⟩ = some (.int .i64 (((nowL s h n T).getD J 0 : Nat) : Int)) := hcell
                    rw [nowL_get s h T hJn] at hcell
                    have HST2 := (show Hid (Gm.repL s h T H (J + 1) = Gm.repL s h T H J ++ (if Qm.it (Gm.tn s) T (h J) = H then [H] else [])) from Gm.repL_step s h T H J)
                    have HRL := (show Hid ((Gm.repL s h T H J).length ≤ 1048576) from by rw [Hid, Gm.repL_len]; have := Gm.cj_le s h T H J; omega)
                    have HNOW := (show Hid (OwnsL wr w.heap.size (.slice an n cn) (nowL s h n T)) from hnow)
                    clear hcells hnow
                    subst e8
                    by_cases hq : Qm.it (Gm.tn s) T (h J) = H
                    · rw [if_pos hq] at HST2
                      rw [hq] at hcell
                      have hout' : wr.ownsRow w.heap.size 3 1 u8 (acc ++ Gm.repL s h T H J).length (nnums (acc ++ Gm.repL s h T H J)) := hout
                      have HL2 := (show Hid ((acc ++ Gm.repL s h T H J).length ≤ 1400000000) from by
                        have := HLB.out
                        have := HRL.out
                        rw [Hid, List.length_append]; omega)
                      have HL3 := (show Hid (acc ++ Gm.repL s h T H (J + 1) = (acc ++ Gm.repL s h T H J) ++ [H]) from by rw [Hid, HST2.out, List.append_assoc])
                      generalize acc ++ Gm.repL s h T H J = acc2 at *
                      clear hq HST2
                      go_wp2_with (first
                        | (at_builtin; refine wpList_append_own_at _ rfl _ _ 22 rfl w.heap.size 3 i0 (.int .i64 0) 1 8 Try.underlying22 hi0 hz0 hz1 hz2 rfl (by decide) _ _ _ rfl (World.ownsRow.alloc hout' _) ⟨wr.heap.size, 0, none⟩ 1 1 [.int .i64 (H : Nat)] rfl rfl (cell_one_new _ _ _) (fun u hu => by simp at hu; subst hu; rfl) (by have := HL2.out; unfold maxLen; omega) (by have := HL2.out; omega) (by simp; omega) ?_; intro v6 w6 hown6 hgrow6 _ hat6))
                      have hnow6 : OwnsL w6 w.heap.size (.slice (some ⟨b9, o9, none⟩) n cn) (nowL s h n T) := World.ownsRow.kept (World.ownsRow.alloc HNOW.out _) hgrow6 (ap_symm HAP.out)
                      have hlt6 := World.ownsRow.lt HNOW.out
                      go_roundw
                      case rel =>
                        refine ⟨J + 1, by omega, by go_num, hnow6, ?_, ?_, (hb.alloc hzb _).grown hgrow6 (by simp; omega) (fun k hk => (World.ownsRow.lt hout' k hk).1)⟩
                        · rw [HL3.out]
                          unfold OwnsL
                          rw [List.length_append, nnums_append]
                          exact hown6
                        · rcases hat6 with e | e
                          · rw [Hid, e]; exact HAP.out
                          · right
                            rw [e]
                            intro e2
                            have := (hlt6 _ e2.symm).2
                            simp at this
                            omega
                      case measure => simp [intOf] <;> omega
                    · rw [if_neg hq, List.append_nil] at HST2
                      have hd : (((Qm.it (Gm.tn s) T (h J) : Nat) : Int) == ((H : Nat) : Int)) = false := beq_eq_false_iff_ne.2 (by omega)
                      generalize Qm.it (Gm.tn s) T (h J) = z at *
                      clear hq
                      go_wp2
                      go_roundw
                      case rel => exact ⟨J + 1, by omega, by go_num, HNOW.out, by rw [HST2.out]; exact hout, HAP, hb⟩
                      case measure => simp [intOf] <;> omega
                  · obtain rfl : J = n := by omega
                    go_wp2
                    go_roundw
                    case rel => exact ⟨H + 1, by omega, by go_num, hnow, by rw [HST.out]; exact hout, HAP, hb⟩
                    case measure => simp [intOf] <;> omega
              · have HOUT := (show Hid (OwnsL wr w.heap.size u8 (Gm.outL s h n (T + 1))) from by
                  rw [Hid, Gm.outL_step, ← HSS.out, show S = H by omega]
                  exact hout)
                have HNOW := (show Hid (OwnsL wr w.heap.size (.slice an n cn) (nowL s h n T)) from hnow)
                clear hout hnow HAP
                obtain ⟨V, rfl⟩ : ∃ V, V = wr := ⟨_, rfl⟩
                have hzb := hb.size
                go_wp2
                go_loopw [74, 14] (fun x nx W => ∃ J : Nat, J ≤ n ∧ x = .int .i64 J ∧ OwnsL W V.heap.size nx (nowL s h J (T + 1)) ∧ Below V.heap.size V W) (fun x _ _ => ((n : Int) - intOf x).toNat)
                case atStart => exact ⟨0, by omega, rfl, OwnsL.nil _ _, Below.refl _ _⟩
                case round =>
                  obtain ⟨J, hJ, rfl, hnx, hbV⟩ := hrel
                  have hzv := hbV.size
                  by_cases hJn : J < n
                  · have hnm := HNOW.out.nums
                    rw [nowL_len] at hnm
                    obtain ⟨an', cn', e9, _, hcells⟩ := hnm
                    cases e9
                    obtain ⟨b9, o9, e8, hcell0⟩ := hcells J hJn
                    replace hcell0 : V.cell? ⟨b9, o9 + J, none⟩ = some (.int .i64 (((nowL s h n T).getD J 0 : Nat) : Int)) := hcell0
                    rw [nowL_get s h T hJn] at hcell0
                    have hcell := (hbV.cell (cell_block hcell0)).trans hcell0
                    have HTU := (show Hid (Calls Try.prog 36 #[.int .i64 (s : Nat), .int .i64 (Qm.it (Gm.tn s) T (h J) : Nat)] wr fun e w' => e = .returned (.int .i64 (Qm.it (Gm.tn s) (T + 1) (h J) : Nat)) ∧ Below wr.heap.size wr w') from rturned_any s _ h2 h16 (Gm.it_lt (HH.out J hJn) T) wr)
                    have HSN := (show Hid (nowL s h (J + 1) (T + 1) = nowL s h J (T + 1) ++ [Qm.it (Gm.tn s) (T + 1) (h J)]) from nowL_step s h J (T + 1))
                    have HNL := (show Hid ((nowL s h J (T + 1)).length ≤ 1048576) from by rw [Hid, nowL_len]; omega)
                    have HNXO := (show Hid (OwnsL wr V.heap.size u14 (nowL s h J (T + 1))) from hnx)
                    clear hcells hcell0 hnx
                    subst e8
                    generalize Qm.it (Gm.tn s) (T + 1) (h J) = z1 at *
                    generalize Qm.it (Gm.tn s) T (h J) = z at *
                    generalize nowL s h J (T + 1) = nl at *
                    go_wp2_with fail
                    refine Calls.mono HTU.out ?_
                    rintro e W3 ⟨rfl, hb3⟩
                    have hnx3 : W3.ownsRow V.heap.size 3 1 u14 nl.length (nnums nl) := HNXO.out.below hb3
                    have hbV3 := hbV.trans (hb3.mono hzv)
                    have hzv3 := hbV3.size
                    go_wp2_with (first
                      | (at_builtin; refine wpList_append_own _ rfl _ _ 22 rfl V.heap.size 3 i0 (.int .i64 0) 1 8 Try.underlying22 hi0 hz0 hz1 hz2 rfl (by decide) _ _ _ rfl (World.ownsRow.alloc hnx3 _) ⟨W3.heap.size, 0, none⟩ 1 1 [.int .i64 (z1 : Nat)] rfl rfl (cell_one_new _ _ _) (fun u hu => by simp at hu; subst hu; rfl) (by have := HNL.out; unfold maxLen; omega) (by have := HNL.out; omega) (by simp; omega) ?_; intro v6 w6 hown6 hgrow6 _))
                    go_roundw
                    case rel =>
                      refine ⟨J + 1, by omega, by go_num, ?_, (hbV3.alloc hzv3 _).grown hgrow6 (by simp; omega) (fun k hk => (World.ownsRow.lt hnx3 k hk).1)⟩
                      rw [HSN.out]
                      unfold OwnsL
                      rw [List.length_append, nnums_append]
                      exact hown6
                    case measure => simp [intOf] <;> omega
                  · obtain rfl : J = n := by omega
                    have HO2 := (show Hid (OwnsL wr w.heap.size u8 (Gm.outL s h J (T + 1))) from HOUT.out.below hbV)
                    have HAP2 := (show Hid (u8.ownBlock = none ∨ u8.ownBlock ≠ u14.ownBlock) from by
                      cases ho : u8.ownBlock with
                      | none => exact .inl rfl
                      | some g =>
                        right
                        intro e
                        have q1 := (World.ownsRow.lt HOUT.out g ho).2
                        have q2 := (World.ownsRow.lt hnx g e.symm).1
                        omega)
                    have HN2 := (show Hid (OwnsL wr w.heap.size u14 (nowL s h J (T + 1))) from OwnsL.mono hnx hzb)
                    clear hnx
                    go_wp2
                    go_roundw
                    case rel => exact ⟨T + 1, by omega, by go_num, HN2.out, HO2.out, HAP2, hb.trans (hbV.mono hzb)⟩
                    case measure => simp [intOf] <;> omega
          · obtain rfl : T = 4 := by omega
            obtain ⟨ao, co, rfl⟩ := hout.form
            have hnums := hout.nums
            have hzb := hb.size
            have HRW := (show Hid (∀ W, Below wr.heap.size wr W → Calls Try.prog 16 #[.slice ao (Gm.outL s h n 4).length co] W fun e w' => e = .returned (.int .i64 (ordE (Gm.outL s h n 4).length (fun c => (((Gm.outL s h n 4).getD c 0 : Nat) : Int)))) ∧ Below W.heap.size W w') from fun W hW => rwrong_any _ _ _ W (hnums.below hW))
            have HOUT := (show Hid (OwnsL wr w.heap.size (.slice ao (Gm.outL s h n 4).length co) (Gm.outL s h n 4)) from hout)
            have hll := Gm.outL_len s h n 4
            have HLL := (show Hid ((Gm.outL s h n 4).length ≤ 1073741824) from by
              have q3 : 4 * (s * s * n) ≤ 4 * (256 * 1048576) := Nat.mul_le_mul (by omega) (Nat.mul_le_mul (by rw [← HSS.out]; exact hSb) hn)
              rw [Hid]; omega)
            clear hout hnums hnow HAP hll
            by_cases hR : Gm.Right s h n
            · obtain ⟨r1, r2, _⟩ := Gm.right_list HH.out hR
              rw [← HSS.out] at r1 r2
              rw [r1] at HRW HOUT ⊢
              have hz : ordE S (fun c => (((Gm.outL s h n 4).getD c 0 : Nat) : Int)) = 0 := (ordE_zero _ _).2 (GoodO.of_order r2 (by omega))
              rw [hz] at HRW
              have HR := (show Hid (Gm.Right s h n) from hR)
              clear hR r1 r2 hz HLL
              go_wp2_with (go_at_call 16; refine (HRW.out _ (Below.refl _ _)).mono ?_; rintro e W4 ⟨rfl, hb4⟩)
              go_ret2
              exact ⟨.inr ⟨HALL.out, .inr ⟨by rw [← HNF.out]; exact HR.out, _, w.heap.size, rfl, by rw [← HNF.out]; exact HOUT.out.below hb4⟩⟩, hb.trans (hb4.mono hzb)⟩
            · have HR := (show Hid (¬ Gm.Right s h n) from hR)
              by_cases hl : (Gm.outL s h n 4).length = S
              · have hz : ordE S (fun c => (((Gm.outL s h n 4).getD c 0 : Nat) : Int)) ≠ 0 := fun e => by
                  have hg := (ordE_zero _ _).1 e
                  refine hR (Gm.right_of HH.out (by rw [hl, HSS.out]) (by rw [← HSS.out]; exact hg) (fun x hx => ?_))
                  rw [← HSS.out] at hx ⊢
                  exact onto_of hg x hx
                rw [hl] at HRW HOUT ⊢
                generalize ordE S (fun c => (((Gm.outL s h n 4).getD c 0 : Nat) : Int)) = E at *
                have hE : (E == 0) = false := beq_eq_false_iff_ne.2 hz
                have hE2 : (E != 0) = true := by simpa using hz
                clear hR hl hz HLL HOUT
                go_wp2_with (go_at_call 16; refine (HRW.out _ (Below.refl _ _)).mono ?_; rintro e W4 ⟨rfl, hb4⟩)
                go_ret2
                exact ⟨.inr ⟨HALL.out, .inl ⟨by rw [← HNF.out]; exact HR.out, rfl⟩⟩, hb.trans (hb4.mono hzb)⟩
              · have hll := HLL.out
                generalize (Gm.outL s h n 4).length = ll at *
                have hd : (((ll : Nat) : Int) == ((S : Nat) : Int)) = false := beq_eq_false_iff_ne.2 (by omega)
                have hd2 : (((ll : Nat) : Int) != ((S : Nat) : Int)) = true := by simp; omega
                clear hR hl HRW HOUT HLL
                go_wp2
                go_ret2
                exact ⟨.inr ⟨HALL.out, .inl ⟨by rw [← HNF.out]; exact HR.out, rfl⟩⟩, hb⟩
      | some ad =>
        have HNW := (show Hid (∀ j u, (nnums (nowL s (h) n 0))[j]? = some u → (w.alloc (.cells #[] 3)).cell? (ad.add j) = some u) from fun j u hu => by
          have hjn : j < n := by
            have := (List.getElem?_eq_some_iff.1 hu).1
            rw [nnums_length, nowL_len] at this
            exact this
          obtain ⟨b, o, e9, hcell⟩ := HC.out j hjn
          cases e9
          have hu2 : u = .int .i64 (f j) := by
            rw [HF2.out j hjn]
            simp [nnums, nowL, hjn] at hu
            rw [← hu]; rfl
          rw [hu2, addr_add, hbB.cell (cell_block hcell)]
          exact hcell)
        go_wp2_with (first
          | (at_builtin; refine wpList_append_own _ rfl _ _ 22 rfl w.heap.size 3 i0 (.int .i64 0) 1 8 Try.underlying22 hi0 hz0 hz1 hz2 rfl (by decide) _ _ _ rfl hown0 ad n cap (nnums (nowL s (h) n 0)) rfl (by rw [nnums_length, nowL_len, Nat.mul_one]) HNW.out (nnums_one _) (by unfold maxLen; omega) (by omega) (by simp) ?_; intro v5 w5 hown5 hgrow5 _))
        have HN5 := (show Hid (OwnsL w5 w.heap.size v5 (nowL s h n 0)) from by
          unfold OwnsL
          rw [nowL_len]
          have e : 0 + n = n := Nat.zero_add n
          rw [e] at hown5
          exact hown5)
        have hb5 : Below w.heap.size w w5 := hbB.grown hgrow5 (by simp) (fun k hk => (World.ownsRow.lt hown0 k hk).1)
        clear hown0 hbB hown5 hgrow5 HNW
        clear HC HV0
        have hzw5 := hb5.size
        go_loopw [10, 9, 8] (fun x nw o W => ∃ T : Nat, T ≤ 4 ∧ x = .int .i64 T ∧ OwnsL W w.heap.size nw (nowL s h n T) ∧ OwnsL W w.heap.size o (Gm.outL s h n T) ∧ Hid (o.ownBlock = none ∨ o.ownBlock ≠ nw.ownBlock) ∧ Below w.heap.size w W) (fun x _ _ _ => (4 - intOf x).toNat)
        case atStart => exact ⟨0, by omega, rfl, HN5.out, OwnsL.nil _ _, .inl rfl, hb5⟩
        case round =>
          clear hb5 HN5 hzw5
          obtain ⟨T, hT, rfl, hnow, hout, HAP, hb⟩ := hrel
          by_cases hT4 : T < 4
          · obtain ⟨an, cn, rfl⟩ := hnow.formN (nowL_len s h n T)
            have hT4I : ((T : Nat) : Int) < 4 := by omega
            go_wp2
            go_loopw [11, 8] (fun x o W => ∃ H : Nat, H ≤ S ∧ x = .int .i64 H ∧ OwnsL W w.heap.size (.slice an n cn) (nowL s h n T) ∧ OwnsL W w.heap.size o (Gm.outL s h n T ++ Gm.rowL s h n T H) ∧ Hid (o.ownBlock = none ∨ o.ownBlock ≠ (Value.slice an n cn).ownBlock) ∧ Below w.heap.size w W) (fun x _ _ => ((S : Int) - intOf x).toNat)
            case atStart => exact ⟨0, by omega, rfl, hnow, by rw [show Gm.rowL s h n T 0 = [] from rfl, List.append_nil]; exact hout, HAP, hb⟩
            case round =>
              clear hnow hout HAP hb
              obtain ⟨H, hH, rfl, hnow, hout, HAP, hb⟩ := hrel
              by_cases hHS : H < S
              · have HLB := (show Hid ((Gm.outL s h n T ++ Gm.rowL s h n T H).length ≤ 1342177280) from by
                  have q1 := Gm.outL_len s h n T
                  have q2 := Gm.rowL_len s h n T H
                  have q3 : T * (s * s * n) ≤ 4 * (256 * 1048576) := Nat.mul_le_mul (by omega) (Nat.mul_le_mul (by rw [← HSS.out]; exact hSb) hn)
                  have q4 : H * n ≤ 256 * 1048576 := Nat.mul_le_mul (by omega) hn
                  rw [Hid, List.length_append]; omega)
                have HST := (show Hid (Gm.outL s h n T ++ Gm.rowL s h n T (H + 1) = (Gm.outL s h n T ++ Gm.rowL s h n T H) ++ Gm.repL s h T H n) from by rw [Hid, Gm.rowL_step, List.append_assoc])
                generalize Gm.outL s h n T ++ Gm.rowL s h n T H = acc at *
                go_wp2
                go_loopw [60, 8] (fun x o W => ∃ J : Nat, J ≤ n ∧ x = .int .i64 J ∧ OwnsL W w.heap.size (.slice an n cn) (nowL s h n T) ∧ OwnsL W w.heap.size o (acc ++ Gm.repL s h T H J) ∧ Hid (o.ownBlock = none ∨ o.ownBlock ≠ (Value.slice an n cn).ownBlock) ∧ Below w.heap.size w W) (fun x _ _ => ((n : Int) - intOf x).toNat)
                case atStart => exact ⟨0, by omega, rfl, hnow, by rw [show Gm.repL s h T H 0 = [] from rfl, List.append_nil]; exact hout, HAP, hb⟩
                case round =>
                  clear hnow hout HAP hb
                  obtain ⟨J, hJ, rfl, hnow, hout, HAP, hb⟩ := hrel
                  have hzb := hb.size
                  by_cases hJn : J < n
                  · have hnm := hnow.nums
                    rw [nowL_len] at hnm
                    obtain ⟨an', cn', e9, _, hcells⟩ := hnm
                    cases e9
                    obtain ⟨b9, o9, e8, hcell⟩ := hcells J hJn
                    replace hcell : wr.cell? ⟨b9, o9 + J, none⟩ = some (.int .i64 (((nowL s h n T).getD J 0 : Nat) : Int)) := hcell
                    rw [nowL_get s h T hJn] at hcell
                    have HST2 := (show Hid (Gm.repL s h T H (J + 1) = Gm.repL s h T H J ++ (if Qm.it (Gm.tn s) T (h J) = H then [H] else [])) from Gm.repL_step s h T H J)
                    have HRL := (show Hid ((Gm.repL s h T H J).length ≤ 1048576) from by rw [Hid, Gm.repL_len]; have := Gm.cj_le s h T H J; omega)
                    have HNOW := (show Hid (OwnsL wr w.heap.size (.slice an n cn) (nowL s h n T)) from hnow)
                    clear hcells hnow
                    subst e8
                    by_cases hq : Qm.it (Gm.tn s) T (h J) = H
                    · rw [if_pos hq] at HST2
                      rw [hq] at hcell
                      have hout' : wr.ownsRow w.heap.size 3 1 u8 (acc ++ Gm.repL s h T H J).length (nnums (acc ++ Gm.repL s h T H J)) := hout
                      have HL2 := (show Hid ((acc ++ Gm.repL s h T H J).length ≤ 1400000000) from by
                        have := HLB.out
                        have := HRL.out
                        rw [Hid, List.length_append]; omega)
                      have HL3 := (show Hid (acc ++ Gm.repL s h T H (J + 1) = (acc ++ Gm.repL s h T H J) ++ [H]) from by rw [Hid, HST2.out, List.append_assoc])
                      generalize acc ++ Gm.repL s h T H J = acc2 at *
                      clear hq HST2
                      go_wp2_with (first
                        | (at_builtin; refine wpList_append_own_at _ rfl _ _ 22 rfl w.heap.size 3 i0 (.int .i64 0) 1 8 Try.underlying22 hi0 hz0 hz1 hz2 rfl (by decide) _ _ _ rfl (World.ownsRow.alloc hout' _) ⟨wr.heap.size, 0, none⟩ 1 1 [.int .i64 (H : Nat)] rfl rfl (cell_one_new _ _ _) (fun u hu => by simp at hu; subst hu; rfl) (by have := HL2.out; unfold maxLen; omega) (by have := HL2.out; omega) (by simp; omega) ?_; intro v6 w6 hown6 hgrow6 _ hat6))
                      have hnow6 : OwnsL w6 w.heap.size (.slice (some ⟨b9, o9, none⟩) n cn) (nowL s h n T) := World.ownsRow.kept (World.ownsRow.alloc HNOW.out _) hgrow6 (ap_symm HAP.out)
                      have hlt6 := World.ownsRow.lt HNOW.out
                      go_roundw
                      case rel =>
                        refine ⟨J + 1, by omega, by go_num, hnow6, ?_, ?_, (hb.alloc hzb _).grown hgrow6 (by simp; omega) (fun k hk => (World.ownsRow.lt hout' k hk).1)⟩
                        · rw [HL3.out]
                          unfold OwnsL
                          rw [List.length_append, nnums_append]
                          exact hown6
                        · rcases hat6 with e | e
                          · rw [Hid, e]; exact HAP.out
                          · right
                            rw [e]
                            intro e2
                            have := (hlt6 _ e2.symm).2
                            simp at this
                            omega
                      case measure => simp [intOf] <;> omega
                    · rw [if_neg hq, List.append_nil] at HST2
                      have hd : (((Qm.it (Gm.tn s) T (h J) : Nat) : Int) == ((H : Nat) : Int)) = false := beq_eq_false_iff_ne.2 (by omega)
                      generalize Qm.it (Gm.tn s) T (h J) = z at *
                      clear hq
                      go_wp2
                      go_roundw
                      case rel => exact ⟨J + 1, by omega, by go_num, HNOW.out, by rw [HST2.out]; exact hout, HAP, hb⟩
                      case measure => simp [intOf] <;> omega
                  · obtain rfl : J = n := by omega
                    go_wp2
                    go_roundw
                    case rel => exact ⟨H + 1, by omega, by go_num, hnow, by rw [HST.out]; exact hout, HAP, hb⟩
                    case measure => simp [intOf] <;> omega
              · have HOUT := (show Hid (OwnsL wr w.heap.size u8 (Gm.outL s h n (T + 1))) from by
                  rw [Hid, Gm.outL_step, ← HSS.out, show S = H by omega]
                  exact hout)
                have HNOW := (show Hid (OwnsL wr w.heap.size (.slice an n cn) (nowL s h n T)) from hnow)
                clear hout hnow HAP
                obtain ⟨V, rfl⟩ : ∃ V, V = wr := ⟨_, rfl⟩
                have hzb := hb.size
                go_wp2
                go_loopw [74, 14] (fun x nx W => ∃ J : Nat, J ≤ n ∧ x = .int .i64 J ∧ OwnsL W V.heap.size nx (nowL s h J (T + 1)) ∧ Below V.heap.size V W) (fun x _ _ => ((n : Int) - intOf x).toNat)
                case atStart => exact ⟨0, by omega, rfl, OwnsL.nil _ _, Below.refl _ _⟩
                case round =>
                  obtain ⟨J, hJ, rfl, hnx, hbV⟩ := hrel
                  have hzv := hbV.size
                  by_cases hJn : J < n
                  · have hnm := HNOW.out.nums
                    rw [nowL_len] at hnm
                    obtain ⟨an', cn', e9, _, hcells⟩ := hnm
                    cases e9
                    obtain ⟨b9, o9, e8, hcell0⟩ := hcells J hJn
                    replace hcell0 : V.cell? ⟨b9, o9 + J, none⟩ = some (.int .i64 (((nowL s h n T).getD J 0 : Nat) : Int)) := hcell0
                    rw [nowL_get s h T hJn] at hcell0
                    have hcell := (hbV.cell (cell_block hcell0)).trans hcell0
                    have HTU := (show Hid (Calls Try.prog 36 #[.int .i64 (s : Nat), .int .i64 (Qm.it (Gm.tn s) T (h J) : Nat)] wr fun e w' => e = .returned (.int .i64 (Qm.it (Gm.tn s) (T + 1) (h J) : Nat)) ∧ Below wr.heap.size wr w') from rturned_any s _ h2 h16 (Gm.it_lt (HH.out J hJn) T) wr)
                    have HSN := (show Hid (nowL s h (J + 1) (T + 1) = nowL s h J (T + 1) ++ [Qm.it (Gm.tn s) (T + 1) (h J)]) from nowL_step s h J (T + 1))
                    have HNL := (show Hid ((nowL s h J (T + 1)).length ≤ 1048576) from by rw [Hid, nowL_len]; omega)
                    have HNXO := (show Hid (OwnsL wr V.heap.size u14 (nowL s h J (T + 1))) from hnx)
                    clear hcells hcell0 hnx
                    subst e8
                    generalize Qm.it (Gm.tn s) (T + 1) (h J) = z1 at *
                    generalize Qm.it (Gm.tn s) T (h J) = z at *
                    generalize nowL s h J (T + 1) = nl at *
                    go_wp2_with fail
                    refine Calls.mono HTU.out ?_
                    rintro e W3 ⟨rfl, hb3⟩
                    have hnx3 : W3.ownsRow V.heap.size 3 1 u14 nl.length (nnums nl) := HNXO.out.below hb3
                    have hbV3 := hbV.trans (hb3.mono hzv)
                    have hzv3 := hbV3.size
                    go_wp2_with (first
                      | (at_builtin; refine wpList_append_own _ rfl _ _ 22 rfl V.heap.size 3 i0 (.int .i64 0) 1 8 Try.underlying22 hi0 hz0 hz1 hz2 rfl (by decide) _ _ _ rfl (World.ownsRow.alloc hnx3 _) ⟨W3.heap.size, 0, none⟩ 1 1 [.int .i64 (z1 : Nat)] rfl rfl (cell_one_new _ _ _) (fun u hu => by simp at hu; subst hu; rfl) (by have := HNL.out; unfold maxLen; omega) (by have := HNL.out; omega) (by simp; omega) ?_; intro v6 w6 hown6 hgrow6 _))
                    go_roundw
                    case rel =>
                      refine ⟨J + 1, by omega, by go_num, ?_, (hbV3.alloc hzv3 _).grown hgrow6 (by simp; omega) (fun k hk => (World.ownsRow.lt hnx3 k hk).1)⟩
                      rw [HSN.out]
                      unfold OwnsL
                      rw [List.length_append, nnums_append]
                      exact hown6
                    case measure => simp [intOf] <;> omega
                  · obtain rfl : J = n := by omega
                    have HO2 := (show Hid (OwnsL wr w.heap.size u8 (Gm.outL s h J (T + 1))) from HOUT.out.below hbV)
                    have HAP2 := (show Hid (u8.ownBlock = none ∨ u8.ownBlock ≠ u14.ownBlock) from by
                      cases ho : u8.ownBlock with
                      | none => exact .inl rfl
                      | some g =>
                        right
                        intro e
                        have q1 := (World.ownsRow.lt HOUT.out g ho).2
                        have q2 := (World.ownsRow.lt hnx g e.symm).1
                        omega)
                    have HN2 := (show Hid (OwnsL wr w.heap.size u14 (nowL s h J (T + 1))) from OwnsL.mono hnx hzb)
                    clear hnx
                    go_wp2
                    go_roundw
                    case rel => exact ⟨T + 1, by omega, by go_num, HN2.out, HO2.out, HAP2, hb.trans (hbV.mono hzb)⟩
                    case measure => simp [intOf] <;> omega
          · obtain rfl : T = 4 := by omega
            obtain ⟨ao, co, rfl⟩ := hout.form
            have hnums := hout.nums
            have hzb := hb.size
            have HRW := (show Hid (∀ W, Below wr.heap.size wr W → Calls Try.prog 16 #[.slice ao (Gm.outL s h n 4).length co] W fun e w' => e = .returned (.int .i64 (ordE (Gm.outL s h n 4).length (fun c => (((Gm.outL s h n 4).getD c 0 : Nat) : Int)))) ∧ Below W.heap.size W w') from fun W hW => rwrong_any _ _ _ W (hnums.below hW))
            have HOUT := (show Hid (OwnsL wr w.heap.size (.slice ao (Gm.outL s h n 4).length co) (Gm.outL s h n 4)) from hout)
            have hll := Gm.outL_len s h n 4
            have HLL := (show Hid ((Gm.outL s h n 4).length ≤ 1073741824) from by
              have q3 : 4 * (s * s * n) ≤ 4 * (256 * 1048576) := Nat.mul_le_mul (by omega) (Nat.mul_le_mul (by rw [← HSS.out]; exact hSb) hn)
              rw [Hid]; omega)
            clear hout hnums hnow HAP hll
            by_cases hR : Gm.Right s h n
            · obtain ⟨r1, r2, _⟩ := Gm.right_list HH.out hR
              rw [← HSS.out] at r1 r2
              rw [r1] at HRW HOUT ⊢
              have hz : ordE S (fun c => (((Gm.outL s h n 4).getD c 0 : Nat) : Int)) = 0 := (ordE_zero _ _).2 (GoodO.of_order r2 (by omega))
              rw [hz] at HRW
              have HR := (show Hid (Gm.Right s h n) from hR)
              clear hR r1 r2 hz HLL
              go_wp2_with (go_at_call 16; refine (HRW.out _ (Below.refl _ _)).mono ?_; rintro e W4 ⟨rfl, hb4⟩)
              go_ret2
              exact ⟨.inr ⟨HALL.out, .inr ⟨by rw [← HNF.out]; exact HR.out, _, w.heap.size, rfl, by rw [← HNF.out]; exact HOUT.out.below hb4⟩⟩, hb.trans (hb4.mono hzb)⟩
            · have HR := (show Hid (¬ Gm.Right s h n) from hR)
              by_cases hl : (Gm.outL s h n 4).length = S
              · have hz : ordE S (fun c => (((Gm.outL s h n 4).getD c 0 : Nat) : Int)) ≠ 0 := fun e => by
                  have hg := (ordE_zero _ _).1 e
                  refine hR (Gm.right_of HH.out (by rw [hl, HSS.out]) (by rw [← HSS.out]; exact hg) (fun x hx => ?_))
                  rw [← HSS.out] at hx ⊢
                  exact onto_of hg x hx
                rw [hl] at HRW HOUT ⊢
                generalize ordE S (fun c => (((Gm.outL s h n 4).getD c 0 : Nat) : Int)) = E at *
                have hE : (E == 0) = false := beq_eq_false_iff_ne.2 hz
                have hE2 : (E != 0) = true := by simpa using hz
                clear hR hl hz HLL HOUT
                go_wp2_with (go_at_call 16; refine (HRW.out _ (Below.refl _ _)).mono ?_; rintro e W4 ⟨rfl, hb4⟩)
                go_ret2
                exact ⟨.inr ⟨HALL.out, .inl ⟨by rw [← HNF.out]; exact HR.out, rfl⟩⟩, hb.trans (hb4.mono hzb)⟩
              · have hll := HLL.out
                generalize (Gm.outL s h n 4).length = ll at *
                have hd : (((ll : Nat) : Int) == ((S : Nat) : Int)) = false := beq_eq_false_iff_ne.2 (by omega)
                have hd2 : (((ll : Nat) : Int) != ((S : Nat) : Int)) = true := by simp; omega
                clear hR hl HRW HOUT HLL
                go_wp2
                go_ret2
                exact ⟨.inr ⟨HALL.out, .inl ⟨by rw [← HNF.out]; exact HR.out, rfl⟩⟩, hb⟩
end Go.Proofs.Ytennpknkcaeafac
