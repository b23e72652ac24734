/-
  Several texts, joined: TfE, TfF, TgA, OStH.
-/
import Derived.Test.YtpdemelchhkfaaaTfD
import Derived.Test.YtpdemelchhkfaaaCzB
import Derived.Test.YtpdemelchhkfaaaJn14
import Derived.Test.YtpdemelchhkfaaaJn21
import Derived.Deep.MidRow
import Derived.Conc.AppendEvents3
import Derived.KernelRfl
import Derived.Test.YtpdemelchhkfaaaJn22
import Derived.OrdersHeld
import Derived.Deep.Upon
import Derived.Deep.RegionHeld
import Derived.Deep.WholeRow
/-
  What is gathered and what is counted come to the same.
-/
namespace Go.Proofs.Ytpdemelchhkfaaa
open PK Tl
theorem un_xor (x y : Nat) (hx : x < 32) (hy : y < 32) : unN (x ^^^ y) = (x / 16 + y / 16 + x / 8 + y / 8) % 2 := by
  have key : ∀ x y : Fin 32, unN (x.1 ^^^ y.1) = (x.1 / 16 + y.1 / 16 + x.1 / 8 + y.1 / 8) % 2 := by decide +kernel
  exact key ⟨x, hx⟩ ⟨y, hy⟩
theorem ch_pins (p : Nat → Bool) (l x i : Nat) : chN p l ((x + i) % l) = (pnN p ((x + i) % l) + pnN p ((x + (i + 1)) % l)) % 2 := by
  unfold chN pnN
  have e : ((x + i) % l + 1) % l = (x + (i + 1)) % l := by rw [Nat.mod_add_mod]; rfl
  rw [e]
  cases p ((x + i) % l) <;> cases p ((x + (i + 1)) % l) <;> rfl
theorem chN_lt (p : Nat → Bool) (l i : Nat) : chN p l i < 2 := by unfold chN; split <;> decide
theorem ev_eq (f : Nat → Nat) (p : Nat → Bool) (la : Nat) (q : Nat → Bool) (lb x y i : Nat) (h0 : f i < 32) (h1 : f (i + 1) < 32) : (unN (f i ^^^ f (i + 1)) == chN p la ((x + i) % la) ^^^ chN q lb ((y + i) % lb)) = ev f p la q lb x y i := by
  have k : ∀ a b c : Nat, (a % 2 == (b % 2) ^^^ (c % 2)) = ((a + b + c) % 2 == 0) := fun a b c => by
    rw [Nat.add_mod (a + b) c, Nat.add_mod a b]
    rcases Nat.mod_two_eq_zero_or_one a with ha | ha <;> rcases Nat.mod_two_eq_zero_or_one b with hb | hb <;> rcases Nat.mod_two_eq_zero_or_one c with hc | hc <;> rw [ha, hb, hc] <;> rfl
  rw [un_xor _ _ h0 h1, ch_pins, ch_pins, k]
  unfold ev evS
  simp only [Nat.add_assoc]
/-- The places of a round that a hand adds up are those that are counted. -/
theorem fit_cnt (f : Nat → Nat) (n : Nat) (p : Nat → Bool) (la : Nat) (q : Nat → Bool) (lb x y : Nat) (hf : ∀ i, i < n → f i < 32) (ha : 1 ≤ la) (hb : 1 ≤ lb) :
    fitS (fun r k => Tf.gat (fun i => unN (f i ^^^ f (i + 1))) (la * lb) (n - 1) r k) (chN p la) (chN q lb) la lb x y (min (n - 1) (la * lb)) = cntN f n p la q lb x y := by
  have hR : 0 < la * lb := Nat.mul_pos ha hb
  unfold fitS cntN
  rw [Tf.sm_gat (fun i => unN (f i ^^^ f (i + 1))) (fun r => chN p la ((x + r) % la) ^^^ chN q lb ((y + r) % lb)) (la * lb) _ (fun i => ?_) (n - 1) (fun i hi => ?_)]
  · exact Tf.cn_congr fun i hi => ev_eq f p la q lb x y i (hf i (by omega)) (hf (i + 1) (by omega))
  · have e1 : (x + i % (la * lb)) % la = (x + i) % la := by
      rw [Nat.add_mod, Nat.mod_mul_right_mod, ← Nat.add_mod]
    have e2 : (y + i % (la * lb)) % lb = (y + i) % lb := by
      rw [Nat.add_mod, Nat.mod_mul_left_mod, ← Nat.add_mod]
    simp only [e1, e2]
  · have h1 := Nat.mod_lt i hR
    have h2 := Nat.mod_le i (la * lb)
    omega
end Go.Proofs.Ytpdemelchhkfaaa

/-
  The document's Best, alone.
-/
namespace Go.Proofs.Ytpdemelchhkfaaa
open Go.RowKit PK Tl
theorem tf_cell_tmp2 {P : Program} {fn : Func} {p q : Tmp} {ty : TypeId} (h : fn.results = #[.cell p ty, .tmp q]) (tmps : Array Value) (w : World) (g : Nat) (t : TypeId) (cs : Array Value) (fr : Nat × Nat) (d : TypeDesc) (v : Value)
    (hp : tmps.getD p undef = .pointer (some ⟨g, 0, none⟩)) (hv : tmps.getD q undef = v) (hg : w.heap[g]? = some (.cells cs t fr))
    (hu : P.underlying ty = some d) (hd : (match d with | .struct _ | .array _ _ => true | _ => false) = true) (hi : (P.info? ty).map (·.size) = some cs.size) :
    (results fn tmps).run P w = .ok (.tuple #[.agg cs, v]) w := by
  have hp' : tmps[p]?.getD undef = .pointer (some ⟨g, 0, none⟩) := by simpa using hp
  have hv' : tmps[q]?.getD undef = v := by simpa using hv
  simp [results, h, hp', hv', asAddr, run_loadVar_row w g t ty cs fr d hg hu hd hi]
theorem tf_info_hit : (Try.prog.info? 26).map (·.size) = some 3 := by kernel_rfl
/-- What keeps Best from telling. -/
def beE (n : Nat) (f : Nat → Int) (la lb : Nat) (h : Int) : Int := if faE n f ≠ 0 then faE n f else srE la lb h
/-- How often the k-th places fit. -/
def plF (f : Nat → Nat) (n : Nat) (p : Nat → Bool) (la : Nat) (q : Nat → Bool) (lb k : Nat) : Nat := cntN f n p la q lb (k / lb) (k % lb)
/-- The places that are told. -/
def hitV (f : Nat → Nat) (n : Nat) (p : Nat → Bool) (la : Nat) (q : Nat → Bool) (lb k : Nat) : Array Value := #[.int .i64 (k / lb : Nat), .int .i64 (k % lb : Nat), .int .i64 (plF f n p la q lb k : Nat)]
theorem wE_z (l : Nat) : wE l 0 = whE l := by
  unfold wE whE
  split
  · rfl
  · rw [if_neg (by omega)]
set_option maxRecDepth 100000 in
set_option maxHeartbeats 4000000 in
theorem rbest_ok (v va vb : Value) (n la lb h : Nat) (f : Nat → Nat) (p q : Nat → Bool) (hn : n ≤ 65536) (hf : ∀ i, i < n → f i < 32) (ha : 1 ≤ la ∧ la ≤ 47) (hb : 1 ≤ lb ∧ lb ≤ 47) (hh : 1 ≤ h ∧ h ≤ 16) (w : World) (hv : NumsAt w v n (fun i => (f i : Int))) (h1 : PinsAt w va la p) (h2 : PinsAt w vb lb q) :
    Calls Try.prog 8 #[v, va, vb, .int .i64 (h : Nat)] w fun e w' => e = .returned (.tuple #[.agg (hitV f n p la q lb (Tf.bk (plF f n p la q lb) (la * lb))), .int .i64 0]) ∧ Below w.heap.size w w' := by
  have HE : Hid (∀ W, Below w.heap.size w W → Calls Try.prog 25 #[v] W fun e w' => e = .returned (.int .i64 0) ∧ W = w') := fun W hW => by
    have := rfair_any v n (fun i => (f i : Int)) W (hv.below hW)
    rw [faE_ok hn (fun c hc => by have := hf c hc; constructor <;> omega)] at this
    exact this
  have HC : Hid (∀ (x y : Nat) W, x < la → y < lb → Below w.heap.size w W → Calls Try.prog 27 #[v, va, vb, .int .i64 (x : Nat), .int .i64 (y : Nat)] W fun e w' => e = .returned (.int .i64 (plF f n p la q lb (x * lb + y) : Nat)) ∧ Below W.heap.size W w') := fun x y W hx hy hW => (rcnt_any v va vb n la lb x y f p q hn hf ha hb (by omega) (by omega) W (hv.below hW) (h1.below hW) (h2.below hW)).mono fun e w' k => ⟨by
    rw [k.1]
    unfold plF
    rw [show (x * lb + y) / lb = x by rw [Nat.mul_comm, Nat.mul_add_div (by omega), Nat.div_eq_of_lt hy]; rfl, show (x * lb + y) % lb = y by rw [Nat.mul_comm, Nat.mul_add_mod, Nat.mod_eq_of_lt hy]], k.2⟩
  obtain ⟨a1, c1, rfl, _⟩ := hv
  obtain ⟨⟨b1, o1, k1, rfl, _, _⟩, ⟨b2, o2, k2, rfl, _, _⟩⟩ := And.intro (h1.form ha.1) (h2.form hb.1)
  have HS1 : Hid (∀ W, Calls Try.prog 26 #[.slice (some ⟨b1, o1, none⟩) la k1, .int .i64 0] W fun e w' => e = .returned (.int .i64 0) ∧ W = w') := fun W => by
    have := rstd_any (some ⟨b1, o1, none⟩) la k1 0 W (by unfold maxLen; omega)
    rw [wE_z, show whE la = 0 by unfold whE; rw [if_neg (by omega)]] at this
    exact this
  have HS2 : Hid (∀ W, Calls Try.prog 26 #[.slice (some ⟨b2, o2, none⟩) lb k2, .int .i64 0] W fun e w' => e = .returned (.int .i64 0) ∧ W = w') := fun W => by
    have := rstd_any (some ⟨b2, o2, none⟩) lb k2 0 W (by unfold maxLen; omega)
    rw [wE_z, show whE lb = 0 by unfold whE; rw [if_neg (by omega)]] at this
    exact this
  have hz : RowAt (w.alloc (.cells #[.int .i64 0, .int .i64 0, .int .i64 0] 26)) w.heap.size 26 #[.int .i64 0, .int .i64 0, .int .i64 0] := RowAt.new w _ _
  have hbl := (Below.refl w.heap.size w).alloc (Nat.le_refl _) (.cells #[.int .i64 0, .int .i64 0, .int .i64 0] 26)
  clear hf h1 h2
  go_enter Try.func8, Try.ntmps8
  go_wp2_with fail
  generalize w.alloc (.cells #[.int .i64 0, .int .i64 0, .int .i64 0] 26) = V at *
  refine Calls.mono (HE.out _ hbl) ?_
  rintro e Y ⟨rfl, rfl⟩
  clear HE
  go_wp2_with fail
  refine Calls.mono (HS1.out _) ?_
  rintro e Y ⟨rfl, rfl⟩
  clear HS1
  go_wp2_with fail
  refine Calls.mono (HS2.out _) ?_
  rintro e Y ⟨rfl, rfl⟩
  clear HS2
  have g1 : ¬ (h : Int) < 1 := by omega
  have g2 : ¬ (16 : Int) < (h : Int) := by omega
  have HC0 : Hid (Calls Try.prog 27 #[.slice a1 n c1, .slice (some ⟨b1, o1, none⟩) la k1, .slice (some ⟨b2, o2, none⟩) lb k2, .int .i64 0, .int .i64 0] V fun e w' => e = .returned (.int .i64 (plF f n p la q lb 0 : Nat)) ∧ Below V.heap.size V w') := by
    have := HC.out 0 0 V (by omega) (by omega) hbl
    rw [show 0 * lb + 0 = 0 by omega] at this
    exact this
  go_wp2_with fail
  refine Calls.mono HC0.out ?_
  rintro e Y ⟨rfl, hY⟩
  clear HC0
  have hz2 := hz.below hY hz.lt
  have hY2 : Below w.heap.size w Y := hbl.trans (hY.mono hbl.size)
  have hq1 : w.heap.size < Y.heap.size := Nat.lt_of_lt_of_le hz.lt hY.size
  clear hz hbl hY
  go_upto_region 13 with fail
  have hr0 := RowAt.new Y 26 #[.int .i64 0, .int .i64 0, .int .i64 (plF f n p la q lb 0 : Nat)]
  have hz3 := hz2.alloc (.cells #[.int .i64 0, .int .i64 0, .int .i64 (plF f n p la q lb 0 : Nat)] 26)
  have hY3 := hY2.alloc hY2.size (.cells #[.int .i64 0, .int .i64 0, .int .i64 (plF f n p la q lb 0 : Nat)] 26)
  generalize Y.alloc (.cells #[.int .i64 0, .int .i64 0, .int .i64 (plF f n p la q lb 0 : Nat)] 26) = Y2 at *
  have hst : (#[.int .i64 0, .int .i64 0, .int .i64 (plF f n p la q lb 0 : Nat)] : Array Value) = hitV f n p la q lb (Tf.bk (plF f n p la q lb) (0 * lb)) := by simp [hitV, Tf.bk]
  rw [hst] at hr0
  generalize Y.heap.size = g at *
  clear hz2 hY2 hst
  go_wp2_with fail
  go_loopw [49] (fun x W => ∃ i : Nat, i ≤ la ∧ x = .int .i64 (i : Nat) ∧ RowAt W g 26 (hitV f n p la q lb (Tf.bk (plF f n p la q lb) (i * lb))) ∧ RowAt W w.heap.size 26 #[.int .i64 0, .int .i64 0, .int .i64 0] ∧ Below w.heap.size w W) (fun x _ => ((la : Int) - intOf x).toNat)
  case atStart => exact ⟨0, by omega, rfl, hr0, hz3, hY3⟩
  case round =>
    clear hr0 hz3 hY3
    obtain ⟨i, hi, rfl, hr, hz, hbe⟩ := hrel
    by_cases hlt : i < la
    case neg =>
      obtain rfl : i = la := by omega
      have hnn : ¬ ((i : Nat) : Int) < ((i : Nat) : Int) := by omega
      have HZ := (show Hid (RowAt wr w.heap.size 26 #[.int .i64 0, .int .i64 0, .int .i64 0]) from hz)
      have HB := (show Hid (Below w.heap.size w wr) from hbe)
      obtain ⟨ka, hka⟩ : ∃ x, x = Tf.bk (plF f n p i q lb) (i * lb) / lb := ⟨_, rfl⟩
      obtain ⟨kb, hkb⟩ : ∃ x, x = Tf.bk (plF f n p i q lb) (i * lb) % lb := ⟨_, rfl⟩
      obtain ⟨kc, hkc⟩ : ∃ x, x = plF f n p i q lb (Tf.bk (plF f n p i q lb) (i * lb)) := ⟨_, rfl⟩
      have HV : Hid (hitV f n p i q lb (Tf.bk (plF f n p i q lb) (i * lb)) = #[.int .i64 (ka : Nat), .int .i64 (kb : Nat), .int .i64 (kc : Nat)]) := by rw [Hid, hka, hkb, hkc]; rfl
      rw [HV.out] at hr
      have cA := hr.cell (i := 0) rfl
      have cB := hr.cell (i := 1) rfl
      have cC := hr.cell (i := 2) rfl
      have zA := hz.cell (i := 0) rfl
      have zB := hz.cell (i := 1) rfl
      have zC := hz.cell (i := 2) rfl
      have f0 := hz.frozen 0
      have f1 := hz.frozen 1
      have f2 := hz.frozen 2
      clear hr hz hbe hlt hi hka hkb hkc
      go_wp2
      exact bodyPost_ret (v := .tuple #[.agg #[.int .i64 (ka : Nat), .int .i64 (kb : Nat), .int .i64 (kc : Nat)], .int .i64 0]) (tf_cell_tmp2 rfl _ _ w.heap.size 26 _ (0, 0) _ _ rfl rfl (((HZ.out.set 0 (.int .i64 (ka : Nat))).set 1 (.int .i64 (kb : Nat))).set 2 (.int .i64 (kc : Nat))) Try.underlying26 rfl tf_info_hit) rfl ⟨by rw [HV.out], ((HB.out.setCell (p := ⟨w.heap.size, 0, none⟩) (Nat.le_refl _) _).setCell (p := ⟨w.heap.size, 1, none⟩) (Nat.le_refl _) _).setCell (p := ⟨w.heap.size, 2, none⟩) (Nat.le_refl _) _⟩
    have HLT : Hid (i < la) := hlt
    have hlt2 : (i : Int) < (la : Int) := by omega
    have HR := (show Hid (RowAt wr g 26 (hitV f n p la q lb (Tf.bk (plF f n p la q lb) (i * lb + 0)))) from hr)
    have HZ := (show Hid (RowAt wr w.heap.size 26 #[.int .i64 0, .int .i64 0, .int .i64 0]) from hz)
    have HB := (show Hid (Below w.heap.size w wr) from hbe)
    clear hr hz hbe hlt
    go_wp2_with fail
    go_loopw [54] (fun y W => ∃ j : Nat, j ≤ lb ∧ y = .int .i64 (j : Nat) ∧ RowAt W g 26 (hitV f n p la q lb (Tf.bk (plF f n p la q lb) (i * lb + j))) ∧ RowAt W w.heap.size 26 #[.int .i64 0, .int .i64 0, .int .i64 0] ∧ Below w.heap.size w W) (fun y _ => ((lb : Int) - intOf y).toNat)
    case atStart => exact ⟨0, by omega, rfl, HR.out, HZ.out, HB.out⟩
    case round =>
      clear HR HZ HB
      obtain ⟨j, hj, rfl, hr, hz, hbe⟩ := hrel
      by_cases hjl : j < lb
      case neg =>
        obtain rfl : j = lb := by omega
        have hnn : ¬ ((j : Nat) : Int) < ((j : Nat) : Int) := by omega
        have HR := (show Hid (RowAt wr g 26 (hitV f n p la q j (Tf.bk (plF f n p la q j) ((i + 1) * j)))) from by rw [Nat.succ_mul]; exact hr)
        have HZ := (show Hid (RowAt wr w.heap.size 26 #[.int .i64 0, .int .i64 0, .int .i64 0]) from hz)
        have HB := (show Hid (Below w.heap.size w wr) from hbe)
        clear hr hz hbe
        go_wp2
        all_goals go_roundw
        case rel => exact ⟨i + 1, HLT.out, by go_num, HR.out, HZ.out, HB.out⟩
        case measure => have := HLT.out; simp [intOf]; omega
      have HJL : Hid (j < lb) := hjl
      have hjl2 : (j : Int) < (lb : Int) := by omega
      have HCC := (show Hid (Calls Try.prog 27 #[.slice a1 n c1, .slice (some ⟨b1, o1, none⟩) la k1, .slice (some ⟨b2, o2, none⟩) lb k2, .int .i64 (i : Nat), .int .i64 (j : Nat)] wr fun e w' => e = .returned (.int .i64 (plF f n p la q lb (i * lb + j) : Nat)) ∧ Below wr.heap.size wr w') from HC.out i j wr HLT.out hjl hbe)
      go_wp2_with fail
      refine Calls.mono HCC.out ?_
      rintro e U ⟨rfl, hU⟩
      clear HCC
      have hr2 := hr.below hU hr.lt
      have hz2 := hz.below hU hz.lt
      have hb2 : Below w.heap.size w U := hbe.trans (hU.mono hbe.size)
      clear hr hz hbe hU hjl
      have cc : U.cell? ⟨g, 2, none⟩ = some (.int .i64 (plF f n p la q lb (Tf.bk (plF f n p la q lb) (i * lb + j)) : Nat)) := hr2.cell (i := 2) rfl
      have HST : Hid (Tf.bk (plF f n p la q lb) (i * lb + (j + 1)) = if plF f n p la q lb (Tf.bk (plF f n p la q lb) (i * lb + j)) < plF f n p la q lb (i * lb + j) then i * lb + j else Tf.bk (plF f n p la q lb) (i * lb + j)) := rfl
      have HV : Hid (hitV f n p la q lb (i * lb + j) = #[.int .i64 (i : Nat), .int .i64 (j : Nat), .int .i64 (plF f n p la q lb (i * lb + j) : Nat)]) := by
        have := HJL.out
        rw [Hid, hitV, show (i * lb + j) / lb = i by rw [Nat.mul_comm, Nat.mul_add_div (by omega), Nat.div_eq_of_lt this]; rfl, show (i * lb + j) % lb = j by rw [Nat.mul_comm, Nat.mul_add_mod, Nat.mod_eq_of_lt this]]
      have HR := (show Hid (RowAt U g 26 (hitV f n p la q lb (Tf.bk (plF f n p la q lb) (i * lb + j)))) from hr2)
      have HZ := (show Hid (RowAt U w.heap.size 26 #[.int .i64 0, .int .i64 0, .int .i64 0]) from hz2)
      have HB := (show Hid (Below w.heap.size w U) from hb2)
      by_cases hc : plF f n p la q lb (Tf.bk (plF f n p la q lb) (i * lb + j)) < plF f n p la q lb (i * lb + j)
      · have HE : Hid (Tf.bk (plF f n p la q lb) (i * lb + (j + 1)) = i * lb + j) := HST.out.trans (if_pos hc)
        have cA : U.cell? ⟨g, 0, none⟩ = some (.int .i64 (Tf.bk (plF f n p la q lb) (i * lb + j) / lb : Nat)) := hr2.cell (i := 0) rfl
        have cB : U.cell? ⟨g, 1, none⟩ = some (.int .i64 (Tf.bk (plF f n p la q lb) (i * lb + j) % lb : Nat)) := hr2.cell (i := 1) rfl
        have fz0 := hr2.frozen 0
        have fz1 := hr2.frozen 1
        have fz2 := hr2.frozen 2
        have hc2 : (plF f n p la q lb (Tf.bk (plF f n p la q lb) (i * lb + j)) : Int) < (plF f n p la q lb (i * lb + j) : Int) := by omega
        generalize plF f n p la q lb (i * lb + j) = NN at *
        generalize hkk : Tf.bk (plF f n p la q lb) (i * lb + j) = kk at *
        generalize plF f n p la q lb kk = OO at *
        generalize kk / lb = ka at *
        generalize kk % lb = kb at *
        clear HST hr2 hz2 hb2
        go_wp2
        all_goals go_roundw
        case rel =>
          refine ⟨j + 1, HJL.out, by go_num, ?_, ?_, ?_⟩
          · have h5 := ((HR.out.set 0 (.int .i64 (i : Nat))).set 1 (.int .i64 (j : Nat))).set 2 (.int .i64 (NN : Nat))
            rw [HE.out, HV.out]
            exact h5
          · exact ((HZ.out.setOther ⟨g, 0, none⟩ _ (Nat.ne_of_lt hq1)).setOther ⟨g, 1, none⟩ _ (Nat.ne_of_lt hq1)).setOther ⟨g, 2, none⟩ _ (Nat.ne_of_lt hq1)
          · exact ((HB.out.setCell (p := ⟨g, 0, none⟩) (Nat.le_of_lt hq1) _).setCell (p := ⟨g, 1, none⟩) (Nat.le_of_lt hq1) _).setCell (p := ⟨g, 2, none⟩) (Nat.le_of_lt hq1) _
        case measure => have := HJL.out; simp [intOf]; omega
      · have HE : Hid (Tf.bk (plF f n p la q lb) (i * lb + (j + 1)) = Tf.bk (plF f n p la q lb) (i * lb + j)) := HST.out.trans (if_neg hc)
        have hc2 : ¬ (plF f n p la q lb (Tf.bk (plF f n p la q lb) (i * lb + j)) : Int) < (plF f n p la q lb (i * lb + j) : Int) := by omega
        generalize plF f n p la q lb (i * lb + j) = NN at *
        generalize plF f n p la q lb (Tf.bk (plF f n p la q lb) (i * lb + j)) = OO at *
        clear HST HV hr2 hz2 hb2
        go_wp2
        all_goals go_roundw
        case rel => exact ⟨j + 1, HJL.out, by go_num, by rw [HE.out]; exact HR.out, HZ.out, HB.out⟩
        case measure => have := HJL.out; simp [intOf]; omega
end Go.Proofs.Ytpdemelchhkfaaa

/-
  tele.Best in company: which functions are called there by name of the list; copies into a lone world that has blocks of its own already.
-/
namespace Go.Proofs.Ytpdemelchhkfaaa.Cs
open Go.Conc Go.RowKit
def tfList : List FuncId := [8, 9, 10, 16, 17, 18, 19, 22, 24, 25, 26, 27, 42, 43, 44, 50]
noncomputable instance tfFns : Fns where
  ok := fun f => tfList.contains f
  G := Try.prog.globals.size
noncomputable def tfBad : List FuncId := tfList.filter fun f => match Try.prog.funcs[f]? with
  | some fn => (match fn.body with | some b => !(codeOk Try.prog b) | none => true) || (fn.name == "runtime.NumGoroutine")
  | none => true
theorem tf_code : tfBad = [] := by kernel_rfl
theorem tf_fnsCode : FnsCode Try.prog := fun f hf => by
  have hm : f ∈ tfList := List.contains_iff_mem.1 hf
  have hb : f ∉ tfBad := by rw [tf_code]; simp
  unfold tfBad at hb
  rw [List.mem_filter] at hb
  have hb' := fun e => hb ⟨hm, e⟩
  cases h1 : Try.prog.funcs[f]? with
  | none => exact absurd (by simp only [h1]) hb'
  | some fn =>
    cases h2 : fn.body with
    | none => exact absurd (by simp only [h1, h2, Bool.true_or]) hb'
    | some b =>
      cases h3 : codeOk Try.prog b with
      | false => exact absurd (by simp only [h1, h2, h3, Bool.not_false, Bool.true_or]) hb'
      | true =>
        cases h4 : (fn.name == "runtime.NumGoroutine") with
        | true => exact absurd (by simp only [h1, h2, h3, h4, Bool.or_true]) hb'
        | false => exact ⟨fn, b, rfl, h2, h3, h4⟩
theorem no_type : Try.prog.info? 1000000000 = none := by kernel_rfl
theorem wr_move {P : Program} [Fns] {E : Env} {wl w w2 : World} (h : WR P E wl w) (hw : ∀ b x, E b = some x → w2.heap[x.1]? = w.heap[x.1]?) : WR P E wl w2 := by
  refine ⟨fun b q s e => ?_, fun b q s e => ?_, h.inj, h.low⟩
  · obtain ⟨h1, ol, o, h2, h3, h4⟩ := h.own b q s e
    exact ⟨h1, ol, o, h2, (hw b _ e).trans h3, h4⟩
  · obtain ⟨x, T, y, T', fr, h1, h2, h3, h4⟩ := h.shared b q s e
    exact ⟨x, T, y, T', fr, h1, h2, (hw b _ e).trans h3, h4⟩
/-- A slice with room lies in a row of cells. -/
def Rt (w : World) (v : Value) : Prop := ∀ a l c, v = .slice (some a) l c → 0 < c → a.spot = none ∧ ∃ y T fr, w.heap[a.block]? = some (.cells y T fr)
theorem cell_someT {w : World} {a : Addr} {v : Value} (h : w.cell? a = some v) : ∃ y T fr, w.heap[a.block]? = some (.cells y T fr) := by
  unfold World.cell? at h
  split at h
  · rename_i e
    exact ⟨_, _, _, e⟩
  · cases h
section
variable [Fns]
/-- A lone world, and nothing of it is told beyond its end. -/
structure Cq (P : Program) (E : Env) (wl w : World) : Prop where
  wr : WR P E wl w
  big : Fns.G ≤ wl.heap.size
  top : ∀ b, wl.heap.size ≤ b → E b = none
theorem Cp.cq {P : Program} {E : Env} {wl w : World} (h : Cp P E wl w) : Cq P E wl w := ⟨h.wr, h.big, h.top⟩
variable {P : Program} {w : World}
theorem Cq.of {E : Env} {wl : World} (h : WR P E wl w) (hb : Fns.G ≤ wl.heap.size) : Cq P E wl w := ⟨h, hb, fun b hb => by
  cases e : E b with
  | none => rfl
  | some x => exact absurd (h.lt e).1 (by omega)⟩
/-- A piece of a row is laid: no block of its own. -/
theorem Cq.row {E : Env} {wl : World} (h : Cq P E wl w) {TJ : TypeId} (hJ : P.info? TJ = none) {q s : Nat} {y : Array Value} {T' : TypeId} {fr : Nat × Nat} (hq : w.heap[q]? = some (.cells y T' fr)) (hno : ∀ b s', E b ≠ some (q, s', true)) (x : Array Value) (hx : ∀ (i : Nat) u, x[i]? = some u → ∃ v, y[i + s]? = some v ∧ VR E u v) :
    ∃ E', Cq P E' (wl.alloc (.cells x TJ (0, x.size))) w ∧ CpLe E E' wl (wl.alloc (.cells x TJ (0, x.size))) ∧ (∀ o, AR E' ⟨wl.heap.size, o, none⟩ ⟨q, o + s, none⟩) ∧ (∀ i u, x[i]? = some u → (wl.alloc (.cells x TJ (0, x.size))).cell? ⟨wl.heap.size, i, none⟩ = some u) ∧ ∀ b q' s' o, E' b = some (q', s', o) → (b = wl.heap.size ∧ q' = q ∧ s' = s ∧ o = false) ∨ E b = some (q', s', o) := by
  let E' : Env := fun b => if b = wl.heap.size then some (q, s, false) else E b
  have hn : E wl.heap.size = none := h.top _ (Nat.le_refl _)
  have hle : E.le E' := fun b x e => by
    show (if b = wl.heap.size then some (q, s, false) else E b) = some x
    rw [if_neg (fun e' => by rw [e', hn] at e; cases e)]
    exact e
  have hsz : (wl.alloc (.cells x TJ (0, x.size))).heap.size = wl.heap.size + 1 := by simp
  have hold : ∀ b, b < wl.heap.size → (wl.alloc (.cells x TJ (0, x.size))).heap[b]? = wl.heap[b]? := fun b hb => Below.heap_alloc wl _ b hb
  have hnew : (wl.alloc (.cells x TJ (0, x.size))).heap[wl.heap.size]? = some (.cells x TJ (0, x.size)) := heap_alloc_new wl _
  have hE : ∀ b q' s' o, E' b = some (q', s', o) → (b = wl.heap.size ∧ q' = q ∧ s' = s ∧ o = false) ∨ E b = some (q', s', o) := fun b q' s' o e => by
    have e' : (if b = wl.heap.size then some (q, s, false) else E b) = some (q', s', o) := e
    by_cases hb : b = wl.heap.size
    · rw [if_pos hb] at e'
      cases e'
      exact .inl ⟨hb, rfl, rfl, rfl⟩
    · rw [if_neg hb] at e'
      exact .inr e'
  refine ⟨E', ⟨⟨fun b c s' e => ?_, fun b c s' e => ?_, fun b b' c s' s'' o e e2 => ?_, fun b x' e => ?_⟩, by rw [hsz]; exact Nat.le_succ_of_le h.big, fun b hb => ?_⟩, ⟨hle, by rw [hsz]; exact Nat.le_succ _, hold, rfl, rfl, rfl⟩, fun o => ⟨s, false, by show (if wl.heap.size = wl.heap.size then _ else _) = _; rw [if_pos rfl], rfl, rfl, h.big, fun e => by cases e⟩, fun i u hu => ?_, hE⟩
  · rcases hE b c s' true e with ⟨_, _, _, e'⟩ | e'
    · cases e'
    · obtain ⟨k1, ol, o, k2, k3, k4⟩ := h.wr.own b c s' e'
      exact ⟨k1, ol, o, (hold b (h.wr.lt e').1).trans k2, k3, k4.mono hle⟩
  · rcases hE b c s' false e with ⟨rfl, rfl, rfl, _⟩ | e'
    · exact ⟨x, TJ, y, T', fr, hnew, hJ, hq, fun i u hu => by
        obtain ⟨v, h1, h2⟩ := hx i u hu
        exact ⟨v, h1, h2.mono hle⟩⟩
    · obtain ⟨x', T, y', T2, fr', h1, h2, h3, h4⟩ := h.wr.shared b c s' e'
      exact ⟨x', T, y', T2, fr', (hold b (h.wr.lt e').1).trans h1, h2, h3, fun i u hu => by
        obtain ⟨v, k1, k2⟩ := h4 i u hu
        exact ⟨v, k1, k2.mono hle⟩⟩
  · rcases hE b c s' true e with ⟨_, _, _, e'⟩ | e'
    · cases e'
    · rcases hE b' c s'' o e2 with ⟨_, rfl, _, _⟩ | e2'
      · exact absurd e' (hno b s')
      · exact h.wr.inj b b' c s' s'' o e' e2'
  · obtain ⟨q', s', o⟩ := x'
    rcases hE b q' s' o e with ⟨rfl, _⟩ | e'
    · exact h.big
    · exact h.wr.low b _ e'
  · rw [hsz] at hb
    show (if b = wl.heap.size then some (q, s, false) else E b) = none
    rw [if_neg (by omega)]
    exact h.top b (by omega)
  · rw [cell_of_row _ _ _ _ _ _ hnew]
    exact hu
/-- A slice of values that are told by a relation is laid. -/
theorem cq_slice {E : Env} {wl : World} (h : Cq P E wl w) (hsh : ∀ b q s, E b ≠ some (q, s, true)) {TJ : TypeId} (hJ : P.info? TJ = none) {a : Option Addr} {n cap : Nat} {f : Nat → Value} (hf : ∀ i E', VR E' (f i) (f i)) (hc : ∀ c, c < n → ∃ b o, a = some ⟨b, o, none⟩ ∧ w.cell? ⟨b, o + c, none⟩ = some (f c)) (hr : Rt w (.slice a n cap)) :
    ∃ E' wl' a', Cq P E' wl' w ∧ (∀ b q s, E' b ≠ some (q, s, true)) ∧ (∀ b q s o, E' b = some (q, s, o) → E b = some (q, s, o) ∨ q < w.heap.size) ∧ CpLe E E' wl wl' ∧ VR E' (.slice a' n cap) (.slice a n cap) ∧ ∀ c, c < n → ∃ b o, a' = some ⟨b, o, none⟩ ∧ wl'.cell? ⟨b, o + c, none⟩ = some (f c) := by
  cases a with
  | none =>
    refine ⟨E, wl, none, h, hsh, fun _ _ _ _ e => .inl e, CpLe.refl _ _, .sliceNil n cap, fun c hc' => ?_⟩
    obtain ⟨b, o, e, _⟩ := hc c hc'
    cases e
  | some ad =>
    by_cases hz : n = 0 ∧ cap = 0
    · obtain ⟨rfl, rfl⟩ := hz
      exact ⟨E, wl, some ad, h, hsh, fun _ _ _ _ e => .inl e, CpLe.refl _ _, .sliceNo ad ad, fun c hc' => absurd hc' (Nat.not_lt_zero _)⟩
    · have hrow : ad.spot = none ∧ ∃ y T fr, w.heap[ad.block]? = some (.cells y T fr) := by
        by_cases h0 : 0 < n
        · obtain ⟨b, o, e, k⟩ := hc 0 h0
          cases e
          obtain ⟨y, T, fr, k1⟩ := cell_someT k
          exact ⟨rfl, y, T, fr, k1⟩
        · exact hr ad n cap rfl (by omega)
      obtain ⟨b, o, sp⟩ := ad
      obtain ⟨hsp, y, T, fr, hq⟩ := hrow
      dsimp only at hsp hq
      subst hsp
      obtain ⟨E', c1, c2, c3, c4, c5⟩ := h.row hJ (s := o) hq (fun b s' => hsh b _ s') (Array.ofFn fun i : Fin n => f i) (fun i u hu => by
        obtain ⟨hi, rfl⟩ := Array.getElem?_eq_some_iff.1 hu
        simp only [Array.size_ofFn] at hi
        obtain ⟨b', o', e, k⟩ := hc i hi
        cases e
        refine ⟨f i, ?_, by rw [Array.getElem_ofFn]; exact hf _ _⟩
        rw [cell_of_row _ _ _ _ _ _ hq] at k
        rw [Nat.add_comm]
        exact k)
      refine ⟨E', _, some ⟨wl.heap.size, 0, none⟩, c1, fun b' q' s' e => ?_, fun b' q' s' o' e => ?_, c2, .slice n cap ?_, fun c hc' => ⟨wl.heap.size, 0, rfl, ?_⟩⟩
      · rcases c5 b' q' s' true e with ⟨_, _, _, e'⟩ | e'
        · cases e'
        · exact hsh _ _ _ e'
      · rcases c5 b' q' s' o' e with ⟨_, rfl, _, _⟩ | e'
        · exact .inr (Array.getElem?_eq_some_iff.1 hq).1
        · exact .inl e'
      · have := c3 0
        rw [Nat.zero_add] at this
        exact this
      · rw [Nat.zero_add]
        exact c4 c _ (by rw [Array.getElem?_eq_getElem (by simpa using hc'), Array.getElem_ofFn])
theorem lr_nil {E : Env} : LR E ([] : List Value).toArray ([] : List Value).toArray := ⟨rfl, fun i u v hu => by simp at hu⟩
theorem lr_cons {E : Env} {u v : Value} {l l' : List Value} (h : VR E u v) (t : LR E l.toArray l'.toArray) : LR E (u :: l).toArray (v :: l').toArray := by
  refine ⟨by have := t.size; simpa using this, fun i a b ha hb => ?_⟩
  cases i with
  | zero => simp at ha hb; subst ha hb; exact h
  | succ i => exact t.at_ i a b (by simpa using ha) (by simpa using hb)
end
end Go.Proofs.Ytpdemelchhkfaaa.Cs

/-
  A store of a whole block in a region whose orders are held: one step.
-/
namespace Go.Proofs.Ytpdemelchhkfaaa
open Go.RowKit PK

section
variable {P : Program} {md : Region.Mode} {ops : Array Oper} {Q : Exit → Act → World → Prop} {S : World → Prop}
theorem storeH {fuel : Nat} {listed : Array Bool} {a : Act} {w : World} (i : Nat) (o : Oper) (hr : Region.ready md ops listed = [i]) (ho : ops[i]? = some o) (hw : Region.wanted o (yielded ops a.tmps) = true)
    (ty : TypeId) (x y : Operand) (hop : o.op = .store ty x y) (g : Nat) (cells : Array Value) (hx : a.eval x = .pointer (some ⟨g, 0, none⟩)) (hy : a.eval y = .agg cells) (t : TypeId) (old : Array Value) (hg : RowAt w g t old)
    (hi : (P.info? ty).map (·.size) = some cells.size) (hs : old.size = cells.size) (h1 : cells.all (·.oneCell') = true) (hdst : o.dst = none)
    (hS : S (w.setRow g cells)) (h : S (w.setRow g cells) → wpAnyH P md ops Q S fuel (listed.setIfInBounds i true) a (w.setRow g cells)) : wpAnyH P md ops Q S (fuel + 1) listed a w := by
  refine wpAnyH_ready hr (by simp) (AllReadyH.cons ho (fun K hK => ?_) AllReadyH.nil)
  rw [if_pos hw]
  refine wp_store_row ty x y hop g cells hx hy t old hg hi hs h1 ?_
  have hp : a.put o.dst undef = a := by rw [hdst]; rfl
  rw [hp]
  exact hK.out _ _ hS h
end
end Go.Proofs.Ytpdemelchhkfaaa
