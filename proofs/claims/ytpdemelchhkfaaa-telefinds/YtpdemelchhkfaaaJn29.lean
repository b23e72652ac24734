/-
  Several texts, joined: TfB, TfC.
-/
import Derived.Test.YtpdemelchhkfaaaJn28
/-
  tele.gathered, alone.
-/
namespace Go.Proofs.Ytpdemelchhkfaaa
open Go.RowKit PK Tl
theorem tf_info_parts {P : Program} {t : TypeId} {z : Option Value} {s b : Nat} (h : (P.info? t).map (fun i => (i.zero, i.size, i.bytes)) = some (z, s, b)) : ∃ i, P.info? t = some i ∧ i.zero = z ∧ i.size = s ∧ i.bytes = b := by
  cases hi : P.info? t with
  | none => rw [hi] at h; cases h
  | some i =>
    rw [hi] at h
    simp only [Option.map_some, Option.some.injEq, Prod.mk.injEq] at h
    exact ⟨i, rfl, h.1, h.2.1, h.2.2⟩
theorem tf_info_two : (Try.prog.info? 79).map (fun i => (i.zero, i.size, i.bytes)) = some (some (.agg (ints 2 fun _ => 0)), 2, 16) := by kernel_rfl
theorem made_two (n : Nat) : madeCells (ints 2 fun _ => 0) (n * 2) = ints (n * 2) fun _ => 0 := by
  apply Array.ext_getElem?
  intro i
  by_cases hi : i < n * 2
  · rw [ints_get _ hi]
    have h2 : (ints 2 fun _ => 0)[i % 2]? = some (.int .i64 0) := ints_get (fun _ => 0) (Nat.mod_lt _ (by decide))
    simp [madeCells, hi, ints_size]
    rw [getElem!_def, h2]
  · rw [Array.getElem?_eq_none (by rw [size_madeCells]; omega), Array.getElem?_eq_none (by rw [ints_size]; omega)]
theorem run_make_two (n : Nat) (hn : n ≤ 100000) (w : World) : (Instr.makeSlice 51 (.int .i64 (n : Int)) (.int .i64 (n : Int))).run Try.prog w = .ok (.slice (some ⟨w.heap.size, 0, none⟩) n n) (w.alloc (.cells (ints (n * 2) fun _ => 0) 79)) := by
  obtain ⟨i, hi, hz, hs, hb⟩ := tf_info_parts tf_info_two
  have hr := run_make (P := Try.prog) w 51 79 i _ Try.underlying51 hi hz .i64 .i64 n n (by omega) (Int.le_refl _) (by rw [hb]; omega) (by omega)
  rw [hr, hs]
  have hc : (Value.agg (ints 2 fun _ => 0)).cells = ints 2 fun _ => 0 := rfl
  simp only [Int.toNat_natCast, hc, made_two]
/-- Do the first two holes change unlike? -/
def unN (d : Nat) : Nat := (d / 16 + d / 8) % 2
theorem unN_lt (d : Nat) : unN d < 2 := Nat.mod_lt _ (by decide)
/-- What is gathered, place by place, behind m letters. -/
def gaF (u : Nat → Nat) (R m : Nat) : Nat → Int := fun j => (Tf.gat u R m (j / 2) (j % 2) : Int)
theorem gaF_start (u : Nat → Nat) (R n : Nat) : (ints n fun _ => 0) = ints n (gaF u R 0) := ints_ext fun _ _ => rfl
theorem gaF_next (u : Nat → Nat) (R n m : Nat) (hu : u m < 2) : ints n (upd (gaF u R m) (m % R * 2 + u m) (gaF u R m (m % R * 2 + u m) + 1)) = ints n (gaF u R (m + 1)) := ints_ext fun i hi => by
  have e1 : ∀ j, gaF u R (m + 1) j = gaF u R m j + if j = m % R * 2 + u m then 1 else 0 := fun j => by
    unfold gaF
    rw [Tf.gat_next]
    have : (m % R = j / 2 ∧ u m = j % 2) ↔ j = m % R * 2 + u m := by omega
    by_cases h : j = m % R * 2 + u m
    · rw [if_pos h, if_pos (this.2 h)]; push_cast; rfl
    · rw [if_neg h, if_neg fun x => h (this.1 x)]; push_cast; rfl
  rw [e1]
  unfold upd
  by_cases h : i = m % R * 2 + u m
  · rw [if_pos h, if_pos h, h]
  · rw [if_neg h, if_neg h]; omega
theorem gaF_le (u : Nat → Nat) (R m j : Nat) : 0 ≤ gaF u R m j ∧ gaF u R m j ≤ m := by
  unfold gaF
  have := Tf.gat_le u R m (j / 2) (j % 2)
  omega
theorem bits_un (z : Nat) (h : z < 32) : bits .and .i64 (bits .xor .i64 ((z : Int) / 16) ((z : Int) / 8)) 1 = ((unN z : Nat) : Int) := by
  have key : ∀ z : Fin 32, bits .and .i64 (bits .xor .i64 (((z.1 : Nat) : Int) / 16) (((z.1 : Nat) : Int) / 8)) 1 = ((unN z.1 : Nat) : Int) := by decide +kernel
  exact key ⟨z, h⟩
set_option maxRecDepth 100000 in
set_option maxHeartbeats 4000000 in
theorem pgat_any (v : Value) (m : Nat) (d : Nat → Nat) (R : Nat) (hm : m ≤ 65536) (hR : 1 ≤ R ∧ R ≤ 2209) (hd : ∀ i, i < m → d i < 32) (w : World) (hv : NumsAt w v m (fun i => (d i : Int))) : Calls Try.prog 18 #[v, .int .i64 (R : Nat)] w fun e w' => e = .returned (.slice (some ⟨w.heap.size, 0, none⟩) (min m R) (min m R)) ∧ RowAt w' w.heap.size 79 (ints (min m R * 2) (gaF (fun i => unN (d i)) R m)) ∧ Below w.heap.size w w' := by
  obtain ⟨a, cap, rfl, _, hca⟩ := hv
  have HA := (show Hid (∀ c, c < m → ∃ b o, a = some ⟨b, o, none⟩ ∧ w.cell? ⟨b, o + c, none⟩ = some (.int .i64 (d c : Int))) from hca)
  have HD := (show Hid (∀ i, i < m → d i < 32) from hd)
  obtain ⟨s, hs⟩ : ∃ s, s = min m R := ⟨_, rfl⟩
  rw [← hs]
  have HS := (show Hid (s = min m R) from hs)
  have hmn : (if (R : Int) < (m : Int) then (R : Int) else (m : Int)) = (s : Int) := by split <;> omega
  have hmn2 : (if (m : Int) < (R : Int) then (m : Int) else (R : Int)) = (s : Int) := by split <;> omega
  have hmn3 : (if R < m then (R : Int) else (m : Int)) = (s : Int) := by split <;> omega
  have hmn4 : (if m < R then (m : Int) else (R : Int)) = (s : Int) := by split <;> omega
  have hmk := run_make_two s (by omega)
  have h3 : RowAt (w.alloc (.cells (ints (s * 2) fun _ => 0) 79)) w.heap.size 79 (ints (s * 2) (gaF (fun i => unN (d i)) R 0)) := by rw [← gaF_start (fun i => unN (d i)) R]; exact RowAt.new w _ _
  have hb2 := (Below.refl w.heap.size w).alloc (Nat.le_refl _) (.cells (ints (s * 2) fun _ => 0) 79)
  clear hca hs hd
  go_enter Try.func18, Try.ntmps18
  go_upto_region 2 with fail
  generalize w.alloc (.cells (ints (s * 2) fun _ => 0) 79) = W2 at *
  clear hmk hmn hmn2 hmn3 hmn4
  go_wp2_with fail
  go_loopw [16] (fun x W => ∃ i : Nat, i ≤ m ∧ x = .int .i64 (i : Nat) ∧ RowAt W w.heap.size 79 (ints (s * 2) (gaF (fun i => unN (d i)) R i)) ∧ Below w.heap.size w W) (fun x _ => ((m : Int) - intOf x).toNat)
  case atStart => exact ⟨0, by omega, rfl, h3, hb2⟩
  case round =>
    clear h3 hb2
    obtain ⟨i, hi, rfl, hro, hbe⟩ := hrel
    by_cases hlt : i < m
    case neg =>
      obtain rfl : i = m := by omega
      have hnn : ¬ ((i : Nat) : Int) < ((i : Nat) : Int) := by omega
      have HRO := (show Hid (RowAt wr w.heap.size 79 (ints (s * 2) (gaF (fun j => unN (d j)) R i))) from hro)
      have HBE := (show Hid (Below w.heap.size w wr) from hbe)
      clear hro hbe hlt
      go_wp2
      go_ret
      exact ⟨rfl, HRO.out, HBE.out⟩
    have HLT : Hid (i < m) := hlt
    have hlt2 : (i : Int) < (m : Int) := by omega
    obtain ⟨b1, o1, e1, c1⟩ := HA.out i hlt
    subst e1
    have d1 := (hbe.cell (p := ⟨b1, o1 + i, none⟩) (cell_block c1)).trans c1
    have hz := HD.out i hlt
    have hbu := bits_un _ hz
    have hu := unN_lt (d i)
    have HST := (show Hid _ from gaF_next (fun j => unN (d j)) R (s * 2) i hu)
    have hle := gaF_le (fun j => unN (d j)) R i (i % R * 2 + unN (d i))
    have hrs : i % R < s := by
      have h1 := Nat.mod_lt i (show 0 < R by omega)
      have h2 := Nat.mod_le i R
      have := HS.out
      omega
    have hcell := hro.cell (ints_get (n := s * 2) (gaF (fun j => unN (d j)) R i) (i := i % R * 2 + unN (d i)) (by omega))
    have hfz := hro.frozen (i % R * 2 + unN (d i))
    have hrem : (i : Int).tmod (R : Int) = ((i % R : Nat) : Int) := by rw [Int.tmod_eq_emod_of_nonneg (by omega)]; push_cast; rfl
    have hR0 : ¬ (R : Int) = 0 := by omega
    have HRO := (show Hid (RowAt wr w.heap.size 79 (ints (s * 2) (gaF (fun j => unN (d j)) R i))) from hro)
    have HBE := (show Hid (Below w.heap.size w wr) from hbe)
    have hrs2 : ((i % R : Nat) : Int) < (s : Int) := by omega
    generalize gaF (fun j => unN (d j)) R i (i % R * 2 + unN (d i)) = oc at *
    generalize unN (d i) = u at *
    generalize i % R = r at *
    generalize d i = z at *
    clear hlt c1 hro hbe HA HD
    have hu2 : (u : Int) < 2 := by omega
    go_wp2_with fail
    go_region
    all_goals (try go_wp2)
    all_goals go_roundw
    case rel =>
      refine ⟨i + 1, HLT.out, by go_num, ?_, ?_⟩
      · have h5 := HRO.out.set (r * 2 + u) (.int .i64 (oc + 1))
        rw [ints_set, HST.out] at h5
        exact h5.drew
      · exact (HBE.out.setCell (p := ⟨w.heap.size, r * 2 + u, none⟩) (Nat.le_refl _) _).drew
    case measure => have := HLT.out; simp [intOf]; omega
end Go.Proofs.Ytpdemelchhkfaaa

/-
  (tele.search).fits, alone: by cells alone, so that a ghost may run it.
-/
namespace Go.Proofs.Ytpdemelchhkfaaa
open Go.RowKit PK Tl
/-- Pairs of numbers behind a slice, by cells. -/
def PrC (w : World) (a : Option Addr) (s : Nat) (G : Nat → Nat → Nat) : Prop := ∀ r, r < s → ∃ b o, a = some ⟨b, o, none⟩ ∧ ∀ k, k < 2 → w.cell? ⟨b, o + (r * 2 + k), none⟩ = some (.int .i64 (G r k : Nat))
/-- .. and numbers. -/
def NmC (w : World) (a : Option Addr) (l : Nat) (A : Nat → Nat) : Prop := ∀ c, c < l → ∃ b o, a = some ⟨b, o, none⟩ ∧ w.cell? ⟨b, o + c, none⟩ = some (.int .i64 (A c : Nat))
def fitS (G : Nat → Nat → Nat) (A B : Nat → Nat) (la lb x y s : Nat) : Nat := Tf.sm (fun r => G r (A ((x + r) % la) ^^^ B ((y + r) % lb))) s
theorem xor_lt2 {a b : Nat} (ha : a < 2) (hb : b < 2) : a ^^^ b < 2 := Nat.xor_lt_two_pow (n := 1) ha hb
set_option maxRecDepth 100000 in
set_option maxHeartbeats 4000000 in
theorem pfit_any (ap aa ab : Option Addr) (s cs la ca lb cb x y : Nat) (G : Nat → Nat → Nat) (A B : Nat → Nat) (hs : s ≤ 2209) (ha : 1 ≤ la ∧ la ≤ 47) (hb : 1 ≤ lb ∧ lb ≤ 47) (hx : x < 47) (hy : y < 47) (hG : ∀ r k, G r k ≤ 65536) (hA : ∀ c, A c < 2) (hB : ∀ c, B c < 2) (w : World) (hp : PrC w ap s G) (h1 : NmC w aa la A) (h2 : NmC w ab lb B) :
    Calls Try.prog 22 #[.agg #[.slice ap s cs, .slice aa la ca, .slice ab lb cb], .int .i64 (x : Nat), .int .i64 (y : Nat)] w fun e w' => e = .returned (.int .i64 (fitS G A B la lb x y s : Nat)) ∧ Below w.heap.size w w' := by
  have HP := (show Hid (PrC w ap s G) from hp)
  have H1 := (show Hid (NmC w aa la A) from h1)
  have H2 := (show Hid (NmC w ab lb B) from h2)
  have HG := (show Hid (∀ r k, G r k ≤ 65536) from hG)
  have HA := (show Hid (∀ c, A c < 2) from hA)
  have HB := (show Hid (∀ c, B c < 2) from hB)
  have hbox : RowAt (w.alloc (.cells #[.slice ap s cs, .slice aa la ca, .slice ab lb cb] 55)) w.heap.size 55 #[.slice ap s cs, .slice aa la ca, .slice ab lb cb] := RowAt.new w _ _
  have hbl := (Below.refl w.heap.size w).alloc (Nat.le_refl _) (.cells #[.slice ap s cs, .slice aa la ca, .slice ab lb cb] 55)
  clear hp h1 h2 hG hA hB
  go_enter Try.func22, Try.ntmps22
  go_upto_region 1 with fail
  generalize w.alloc (.cells #[.slice ap s cs, .slice aa la ca, .slice ab lb cb] 55) = V at *
  have c0 := hbox.cell (i := 0) rfl
  go_wp2_with fail
  go_loopw [14, 7] (fun i n W => ∃ r : Nat, r ≤ s ∧ i = .int .i64 (r : Nat) ∧ n = .int .i64 (fitS G A B la lb x y r : Nat) ∧ RowAt W w.heap.size 55 #[.slice ap s cs, .slice aa la ca, .slice ab lb cb] ∧ Below w.heap.size w W) (fun i _ _ => ((s : Int) - intOf i).toNat)
  case atStart => exact ⟨0, by omega, rfl, rfl, hbox, hbl⟩
  case round =>
    clear hbox hbl c0
    obtain ⟨r, hr, rfl, rfl, hro, hbe⟩ := hrel
    by_cases hlt : r < s
    case neg =>
      obtain rfl : r = s := by omega
      have hnn : ¬ ((r : Nat) : Int) < ((r : Nat) : Int) := by omega
      have HBE := (show Hid (Below w.heap.size w wr) from hbe)
      clear hro hbe hlt
      go_wp2
      go_ret
      exact ⟨rfl, HBE.out⟩
    have HLT : Hid (r < s) := hlt
    have hlt2 : (r : Int) < (s : Int) := by omega
    obtain ⟨b0, o0, e0, k0⟩ := HP.out r hlt
    subst e0
    have c0 := k0 0 (by decide)
    have c1 := k0 1 (by decide)
    have d0 : wr.cell? ⟨b0, o0 + r * 2, none⟩ = _ := (hbe.cell (p := ⟨b0, o0 + (r * 2 + 0), none⟩) (cell_block c0)).trans c0
    have d1 : wr.cell? ⟨b0, o0 + r * 2 + 1, none⟩ = _ := (hbe.cell (p := ⟨b0, o0 + (r * 2 + 1), none⟩) (cell_block c1)).trans c1
    have g0 := HG.out r 0
    have g1 := HG.out r 1
    have HN : Hid (fitS G A B la lb x y (r + 1) = fitS G A B la lb x y r + G r (A ((x + r) % la) ^^^ B ((y + r) % lb))) := rfl
    have HU : Hid (fitS G A B la lb x y r ≤ 2209 * 65536) := Nat.le_trans (Tf.sm_le (c := 65536) fun q _ => HG.out _ _) (Nat.mul_le_mul_right _ (by omega))
    have HRO := (show Hid (RowAt wr w.heap.size 55 #[.slice (some ⟨b0, o0, none⟩) s cs, .slice aa la ca, .slice ab lb cb]) from hro)
    have HBE := (show Hid (Below w.heap.size w wr) from hbe)
    clear k0 c0 c1 hlt hro hbe
    go_upto_region 5 with fail
    have hro2 := HRO.out.alloc (.cells #[.int .i64 (G r 0 : Nat), .int .i64 (G r 1 : Nat)] 79)
    have hnew := RowAt.new wr 79 #[.int .i64 (G r 0 : Nat), .int .i64 (G r 1 : Nat)]
    have hbe2 := HBE.out.alloc HBE.out.size (.cells #[.int .i64 (G r 0 : Nat), .int .i64 (G r 1 : Nat)] 79)
    generalize wr.alloc (.cells #[.int .i64 (G r 0 : Nat), .int .i64 (G r 1 : Nat)] 79) = V2 at *
    have f1 := hro2.cell (i := 1) rfl
    have f2 := hro2.cell (i := 2) rfl
    have n0 := hnew.cell (i := 0) rfl
    have n1 := hnew.cell (i := 1) rfl
    have ma : (x + r) % la < la := Nat.mod_lt _ ha.1
    have mb : (y + r) % lb < lb := Nat.mod_lt _ hb.1
    obtain ⟨b1, o1, e1, c1⟩ := H1.out _ ma
    obtain ⟨b2, o2, e2, c2⟩ := H2.out _ mb
    subst e1
    subst e2
    have d2 := (hbe2.cell (p := ⟨b1, o1 + (x + r) % la, none⟩) (cell_block c1)).trans c1
    have d3 := (hbe2.cell (p := ⟨b2, o2 + (y + r) % lb, none⟩) (cell_block c2)).trans c2
    have hra : ((x : Int) + (r : Int)).tmod (la : Int) = (((x + r) % la : Nat) : Int) := by rw [Int.tmod_eq_emod_of_nonneg (by omega)]; push_cast; rfl
    have hrb : ((y : Int) + (r : Int)).tmod (lb : Int) = (((y + r) % lb : Nat) : Int) := by rw [Int.tmod_eq_emod_of_nonneg (by omega)]; push_cast; rfl
    have hla0 : ¬ (la : Int) = 0 := by omega
    have hlb0 : ¬ (lb : Int) = 0 := by omega
    have hA2 := HA.out ((x + r) % la)
    have hB2 := HB.out ((y + r) % lb)
    have hbx := bits_xor (a := A ((x + r) % la)) (b := B ((y + r) % lb)) (by omega) (by omega)
    have hxl := xor_lt2 hA2 hB2
    have ma2 : (((x + r) % la : Nat) : Int) < (la : Int) := by omega
    have mb2 : (((y + r) % lb : Nat) : Int) < (lb : Int) := by omega
    have HBE2 := (show Hid (Below w.heap.size w V2) from hbe2)
    have HRO2 := (show Hid (RowAt V2 w.heap.size 55 #[.slice (some ⟨b0, o0, none⟩) s cs, .slice (some ⟨b1, o1, none⟩) la ca, .slice (some ⟨b2, o2, none⟩) lb cb]) from hro2)
    have HNW := (show Hid (RowAt V2 wr.heap.size 79 #[.int .i64 (G r 0 : Nat), .int .i64 (G r 1 : Nat)]) from hnew)
    clear HRO HBE hro2 hbe2 hnew c1 c2 d0 d1
    generalize A ((x + r) % la) = xa at *
    generalize B ((y + r) % lb) = xb at *
    generalize (x + r) % la = ia at *
    generalize (y + r) % lb = ib at *
    clear hA2 hB2
    generalize xa ^^^ xb = u at *
    generalize fitS G A B la lb x y r = N at *
    generalize wr.heap.size = q at *
    have nu : V2.cell? ⟨q, u, none⟩ = some (.int .i64 (G r u : Nat)) := by
      rcases Nat.lt_or_ge u 1 with h | h
      · obtain rfl : u = 0 := by omega
        exact n0
      · obtain rfl : u = 1 := by omega
        exact n1
    have gu := HG.out r u
    have hu2 : (u : Int) < 2 := by omega
    have HU2 := HU.out
    generalize G r u = gg at *
    clear n0 n1
    go_region
    go_wp2
    all_goals go_roundw
    case rel => exact ⟨r + 1, HLT.out, by go_num, by rw [HN.out]; go_num, HRO2.out.drew, HBE2.out.drew⟩
    case measure => have := HLT.out; simp [intOf]; omega
end Go.Proofs.Ytpdemelchhkfaaa
