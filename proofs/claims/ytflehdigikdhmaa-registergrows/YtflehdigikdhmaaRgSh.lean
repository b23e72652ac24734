/-
  Contract of the document's Shortest (chapter 11).
-/
import Derived.Test.YtflehdigikdhmaaRgSv
namespace Go.Proofs.Ytflehdigikdhmaa
open Go.RowKit PK Rg

/-- x are taps that make the bits, the first of all as long. -/
def First (s : Nat → Bool) (L n : Nat) (x : Nat → Bool) : Prop := Makes x L s n ∧ ∀ y, Makes y L s n → ∀ j, j < L → (∀ c, c < j → y c = x c) → y j ≠ x j → x j = false ∧ y j = true
theorem sol_makes {b : Nat → Nat} {L n : Nat} (hL : L ≤ n) {R : Nat → Nat → Nat} (h : ∀ r, r < n - L → IsRow b L (L + r) (R r)) (x : Nat → Bool) : Sol (fun r c => rbit (R r) c) L (n - L) x ↔ Makes x L (fun i => bt (b i)) n := by
  have key : ∀ r, r < n - L → (Holds (fun r c => rbit (R r) c) L r x ↔ At x L (fun i => bt (b i)) (L + r)) := fun r hr => by
    unfold Holds At
    have e : (sx L fun c => rbit (R r) c && x c) = sx L fun k => x k && bt (b (L + r - 1 - k)) := sx_congr L fun c hc => by rw [(h r hr).tap c hc, Bool.and_comm]
    show (sx L fun c => rbit (R r) c && x c) = rbit (R r) L ↔ bt (b (L + r)) = sx L fun k => x k && bt (b (L + r - 1 - k))
    rw [e, (h r hr).end']
    exact eq_comm
  constructor
  · intro hs i h1 h2
    have := (key (i - L) (by omega)).1 (hs (i - L) (by omega))
    rwa [show L + (i - L) = i by omega] at this
  · intro hm r hr
    exact (key r hr).2 (hm (L + r) (by omega) (by omega))
theorem owns_rows {W : World} {B g m cap : Nat} {R : Nat → Nat → Nat} (h : OwnsR W B (.slice (some ⟨g, 0, none⟩) m cap) m R) : ∀ r j, r < m → j < 5 → W.cell? ⟨g, r * 5 + j, none⟩ = some (.int .u64 (R r j : Nat)) ∧ W.frozen? ⟨g, r * 5 + j, none⟩ = false := by
  intro r j hr hj
  have hlt : r * 5 + j < m * 5 := by omega
  constructor
  · have h1 : (u64s (m * 5) (flatR R)).toList[r * 5 + j]? = some (.int .u64 (R r j : Nat)) := by
      rw [Array.getElem?_toList, u64s_get _ hlt]
      unfold flatR
      rw [show (r * 5 + j) / 5 = r by omega, show (r * 5 + j) % 5 = j by omega]
    have := World.ownsRow.cells (g := g) h rfl (r * 5 + j) _ h1
    have e : ((⟨g, 0, none⟩ : Addr).add (r * 5 + j)) = ⟨g, r * 5 + j, none⟩ := by generalize r * 5 + j = z; unfold Addr.add; by_cases e0 : z = 0 <;> simp [e0]
    rw [e] at this
    exact this
  · rcases h.2 with ⟨h0, _⟩ | ⟨g', cap', cur, h0, _, hg, _⟩
    · cases h0
    · cases h0
      exact RowAt.frozen (T := 48) (c := cur) hg _
theorem owns_at {W : World} {B m : Nat} {v : Value} {R : Nat → Nat → Nat} (h : OwnsR W B v m R) (hm : 0 < m) : ∃ g cap, v = .slice (some ⟨g, 0, none⟩) m cap ∧ B ≤ g ∧ g < W.heap.size := by
  rcases h.2 with ⟨_, h0⟩ | ⟨g, cap, cur, rfl, hb, hg, _⟩
  · omega
  · exact ⟨g, cap, rfl, hb, (Array.getElem?_eq_some_iff.1 hg).1⟩
/-- What Solved says of System's rows. -/
theorem rsolved_sys (v : Value) (B n L : Nat) (hn : n ≤ 256) (hL : L < n) (b : Nat → Nat) (R : Nat → Nat → Nat) (W : World) (ho : OwnsR W B v (n - L) R) (hr : ∀ r, r < n - L → IsRow b L (L + r) (R r)) : Calls Try.prog 21 #[v, .int .i64 (L : Nat)] W fun e w' => Below B W w' ∧ ((∃ (q : Nat) (x : Nat → Bool), e = .returned (.tuple #[.slice (some ⟨q, 0, none⟩) L L, .bool true]) ∧ RowAt w' q 3 (ints L fun c => if x c = true then 1 else 0) ∧ W.heap.size ≤ q ∧ First (fun i => bt (b i)) L n x) ∨ (e = .returned (.tuple #[.slice none 0 0, .bool false]) ∧ ∀ x, ¬ Makes x L (fun i => bt (b i)) n)) := by
  obtain ⟨g, cap, rfl, hbg, hg⟩ := owns_at ho (by omega)
  have hR' : ∀ r, r < n - L → (fun r => if r < n - L then R r else fun _ => 0) r = R r := fun r h => if_pos h
  have hr' : ∀ r, r < n - L → IsRow b L (L + r) ((fun r => if r < n - L then R r else fun _ => 0) r) := fun r h => by rw [hR' r h]; exact hr r h
  refine (rsolved_any g cap (n - L) L (by omega) (by omega) (fun r => if r < n - L then R r else fun _ => 0) (fun r => ?_) W hg (fun r j h1 h2 => ?_)).mono ?_
  · by_cases e : r < n - L
    · rw [if_pos e]; exact (hr r e).wd
    · rw [if_neg e]; exact fun _ => by show (0 : Nat) < 2 ^ 64; decide
  · rw [if_pos h1]; exact owns_rows ho r j h1 h2
  · rintro e w' ⟨hgr, hd⟩
    refine ⟨⟨hgr.os, hgr.tape, hgr.output, hgr.size, fun k hk => hgr.block k (by omega) (fun e => by cases e; omega)⟩, ?_⟩
    rcases hd with ⟨q, x, h1, h2, h3, h4, h5⟩ | ⟨h1, h2⟩
    · exact .inl ⟨q, x, h1, h2, h3, (sol_makes (by omega) hr' x).1 h4, fun y hy => h5 y ((sol_makes (by omega) hr' y).2 hy)⟩
    · exact .inr ⟨h1, fun x hx => h2 x ((sol_makes (by omega) hr' x).2 hx)⟩
/-- What Shortest and Profile refuse. -/
def rsE (n : Nat) (f : Nat → Int) : Int := if 256 < n then 5 else if frB n f = false then 3 else 0
set_option maxRecDepth 100000 in
set_option maxHeartbeats 2000000 in
theorem rshort_bad (v : Value) (n : Nat) (f : Nat → Int) (hE : rsE n f ≠ 0) (w : World) (hv : NumsAt w v n f) : Calls Try.prog 13 #[v] w fun e w' => e = .returned (.tuple #[.slice none 0 0, .int .i64 (rsE n f)]) ∧ Below w.heap.size w w' := by
  have HF1 := (show Hid (∀ W, Below w.heap.size w W → Calls Try.prog 17 #[v] W fun e w' => e = .returned (.bool (frB n f)) ∧ Below W.heap.size W w') from fun W hb => rfair_any v n f W (hv.below hb))
  obtain ⟨a, c, rfl, hm, _⟩ := hv
  unfold maxLen at hm
  by_cases h1 : 256 < n
  · have HE : Hid (rsE n f = 5) := by unfold rsE; rw [Hid, if_pos h1]
    have h3 : (256 : Int) < (n : Int) := by omega
    clear hE HF1 h1
    go_enter Try.func13, Try.ntmps13
    go_wp2
    go_ret2
    exact ⟨by rw [HE.out]; rfl, Below.refl _ _⟩
  · have h3 : ¬ (256 : Int) < (n : Int) := by omega
    have h7 : frB n f = false := by
      unfold rsE at hE
      rw [if_neg h1] at hE
      cases hq : frB n f
      · rfl
      · rw [hq, if_neg (by simp)] at hE; exact absurd rfl hE
    have HE : Hid (rsE n f = 3) := by unfold rsE; rw [Hid, if_neg h1, if_pos h7]
    rw [h7] at HF1
    clear h1 hE h7
    go_enter Try.func13, Try.ntmps13
    go_wp2_with fail
    refine (HF1.out _ (Below.refl _ _)).mono ?_
    rintro e W1 ⟨rfl, hb⟩
    clear HF1
    go_wp2
    go_ret2
    exact ⟨by rw [HE.out]; rfl, hb⟩
set_option maxRecDepth 100000 in
set_option maxHeartbeats 2000000 in
theorem rprof_bad (v : Value) (n : Nat) (f : Nat → Int) (hE : rsE n f ≠ 0) (w : World) (hv : NumsAt w v n f) : Calls Try.prog 11 #[v] w fun e w' => e = .returned (.tuple #[.slice none 0 0, .int .i64 (rsE n f)]) ∧ Below w.heap.size w w' := by
  have HF1 := (show Hid (∀ W, Below w.heap.size w W → Calls Try.prog 17 #[v] W fun e w' => e = .returned (.bool (frB n f)) ∧ Below W.heap.size W w') from fun W hb => rfair_any v n f W (hv.below hb))
  obtain ⟨a, c, rfl, hm, _⟩ := hv
  unfold maxLen at hm
  by_cases h1 : 256 < n
  · have HE : Hid (rsE n f = 5) := by unfold rsE; rw [Hid, if_pos h1]
    have h3 : (256 : Int) < (n : Int) := by omega
    clear hE HF1 h1
    go_enter Try.func11, Try.ntmps11
    go_wp2
    go_ret2
    exact ⟨by rw [HE.out]; rfl, Below.refl _ _⟩
  · have h3 : ¬ (256 : Int) < (n : Int) := by omega
    have h7 : frB n f = false := by
      unfold rsE at hE
      rw [if_neg h1] at hE
      cases hq : frB n f
      · rfl
      · rw [hq, if_neg (by simp)] at hE; exact absurd rfl hE
    have HE : Hid (rsE n f = 3) := by unfold rsE; rw [Hid, if_neg h1, if_pos h7]
    rw [h7] at HF1
    clear h1 hE h7
    go_enter Try.func11, Try.ntmps11
    go_wp2_with fail
    refine (HF1.out _ (Below.refl _ _)).mono ?_
    rintro e W1 ⟨rfl, hb⟩
    clear HF1
    go_wp2
    go_ret2
    exact ⟨by rw [HE.out]; rfl, hb⟩
set_option maxRecDepth 100000 in
set_option maxHeartbeats 4000000 in
theorem rshort_ok (v : Value) (n : Nat) (hn : n ≤ 256) (b : Nat → Nat) (hb1 : ∀ i, i < n → b i ≤ 1) (w : World) (hv : NumsAt w v n fun i => (b i : Nat)) : Calls Try.prog 13 #[v] w fun e w' => ∃ (v' : Value) (L : Nat) (x : Nat → Bool), e = .returned (.tuple #[v', .int .i64 0]) ∧ (∃ a cap, v' = .slice a L cap ∧ L ≤ cap) ∧ NumsAt w' v' L (fun c => if x c = true then 1 else 0) ∧ Least (fun i => bt (b i)) n L ∧ First (fun i => bt (b i)) L n x ∧ Below w.heap.size w w' := by
  have hfT : frB n (fun k => ((b k : Nat) : Int)) = true := (frB_iff _ _).2 fun i hi => by have := hb1 i hi; omega
  have HF1 := (show Hid (∀ W, Below w.heap.size w W → Calls Try.prog 17 #[v] W fun e w' => e = .returned (.bool true) ∧ Below W.heap.size W w') from fun W hb => by have := rfair_any v n _ W (hv.below hb); rw [hfT] at this; exact this)
  have HSY := (show Hid (∀ L W, L < n → Below w.heap.size w W → Calls Try.prog 22 #[v, .int .i64 (L : Nat)] W fun e w' => ∃ v', e = .returned v' ∧ (∃ R, OwnsR w' W.heap.size v' (n - L) R ∧ ∀ r, r < n - L → IsRow b L (L + r) (R r)) ∧ Below W.heap.size W w') from fun L W hL hb => rsys_any v n hn b hb1 L (by omega) W (hv.below hb))
  obtain ⟨a, c, rfl, hmx, _⟩ := hv
  have h3 : ¬ (256 : Int) < (n : Int) := by omega
  have hmk := run_make_row' (P := Try.prog) 22 3 (.int .i64 0) 8 Try.underlying22 g_info_int rfl .i64 .i64 n (by omega) (by omega)
  rw [made_tabT] at hmk
  have HMK := (show Hid _ from hmk)
  have HMX := (show Hid _ from hmx)
  clear hfT hb1 hmk hmx
  go_enter Try.func13, Try.ntmps13
  go_wp2_with fail
  refine (HF1.out _ (Below.refl _ _)).mono ?_
  rintro e W1 ⟨rfl, hb⟩
  clear HF1
  go_wp2_with fail
  go_loopw [4] (fun x W => ∃ L : Nat, L ≤ n ∧ x = .int .i64 (L : Nat) ∧ Below w.heap.size w W ∧ ∀ M, M < L → ∀ c, ¬ Makes c M (fun i => bt (b i)) n) (fun x _ => ((n : Int) - intOf x).toNat)
  case atStart => exact ⟨0, by omega, rfl, hb, fun M hM => by omega⟩
  case round =>
    clear hb
    obtain ⟨L, hL, rfl, hbe, hno⟩ := hrel
    have HNO := (show Hid _ from hno)
    have HBE := (show Hid _ from hbe)
    by_cases hlt : L < n
    case neg =>
      obtain rfl : n = L := by omega
      have hnn : ¬ ((n : Nat) : Int) < ((n : Nat) : Int) := by omega
      have HFIN : Hid (∃ (v' : Value) (L : Nat) (x : Nat → Bool), Value.slice (some ⟨wr.heap.size, 0, none⟩) n n = v' ∧ (∃ a cap, v' = .slice a L cap ∧ L ≤ cap) ∧ NumsAt (wr.alloc (.cells (tab n fun _ => .int .i64 0) 3)) v' L (fun c => if x c = true then 1 else 0) ∧ Least (fun i => bt (b i)) n L ∧ First (fun i => bt (b i)) L n x ∧ Below w.heap.size w (wr.alloc (.cells (tab n fun _ => .int .i64 0) 3))) := by
        refine ⟨_, n, fun _ => false, rfl, ⟨_, n, rfl, Nat.le_refl _⟩, ?_, ⟨⟨fun _ => false, makes_all _ _ (Nat.le_refl _)⟩, fun M ⟨c, hc⟩ => ?_⟩, ⟨makes_all _ _ (Nat.le_refl _), fun y _ j _ _ hne => ⟨rfl, ?_⟩⟩, hbe.alloc hbe.size _⟩
        · refine NumsAt.of_row (T := 3) ?_ HMX.out
          have e : (ints n fun c => if (false = true) then (1 : Int) else 0) = tab n fun _ => .int .i64 0 := tab_ext fun i _ => by show Value.int .i64 (if (false = true) then (1 : Int) else 0) = _; rw [if_neg (by simp)]
          rw [e]
          exact RowAt.new wr _ _
        · by_cases e : M < n
          · exact absurd hc (hno M e c)
          · omega
        · cases hq : y j
          · exact absurd hq hne
          · rfl
      have hmk := HMK.out
      clear hno hbe hlt HMK HNO HBE
      go_wp2
      obtain ⟨v', L, x, rfl, h1, h2, h4, h5, h6⟩ := HFIN.out
      exact bodyPost_ret (v := .tuple #[.slice (some ⟨wr.heap.size, 0, none⟩) n n, .int .i64 0]) (by simp [results, Try.results13, go_sem]) rfl (by first | exact ⟨_, L, x, rfl, h1, h2, h4, h5, h6⟩ | exact ⟨_, rfl, L, x, h1, h2, h4, h5, h6⟩ | exact ⟨_, rfl, L, h1, x, h2, h4, h5, h6⟩)
    have HLT : Hid (L < n) := hlt
    have hlt2 : (L : Int) < (n : Int) := by omega
    clear hno hbe hlt
    go_wp2_with fail
    refine (HSY.out L wr HLT.out HBE.out).mono ?_
    rintro e W2 ⟨v2, rfl, ⟨R, ho, hr⟩, hb2⟩
    have HO := (show Hid (OwnsR W2 wr.heap.size v2 (n - L) R) from ho)
    have HR := (show Hid (∀ r, r < n - L → IsRow b L (L + r) (R r)) from hr)
    have HB2 := (show Hid _ from hb2)
    clear ho hr hb2
    go_wp2_with fail
    refine (rsolved_sys v2 wr.heap.size n L hn HLT.out b R W2 HO.out HR.out).mono ?_
    rintro e W3 ⟨hb3, hd⟩
    have HB3 : Hid (Below w.heap.size w W3) := HBE.out.trans ((HB2.out.trans hb3).mono HBE.out.size)
    clear HO HR HB2 hb3
    rcases hd with ⟨q, x, rfl, hrow, hq, hf⟩ | ⟨rfl, hnx⟩
    · have HFIN : Hid (NumsAt W3 (.slice (some ⟨q, 0, none⟩) L L) L (fun c => if x c = true then 1 else 0) ∧ Least (fun i => bt (b i)) n L ∧ First (fun i => bt (b i)) L n x) := ⟨NumsAt.of_row hrow (by have := HMX.out; omega), ⟨⟨x, hf.1⟩, fun M ⟨c, hc⟩ => by
          by_cases e : M < L
          · exact absurd hc (HNO.out M e c)
          · omega⟩, hf⟩
      clear hrow hq hf HNO
      go_wp2
      go_ret2
      exact ⟨_, L, x, rfl, ⟨_, L, rfl, Nat.le_refl _⟩, HFIN.out.1, HFIN.out.2.1, HFIN.out.2.2, HB3.out⟩
    · have HN2 : Hid (∀ M, M < L + 1 → ∀ c, ¬ Makes c M (fun i => bt (b i)) n) := fun M hM c => by
        by_cases e : M = L
        · rw [e]; exact hnx c
        · exact HNO.out M (by omega) c
      clear hnx HNO
      go_wp2
      go_roundw
      case rel => exact ⟨L + 1, HLT.out, by go_num, HB3.out, HN2.out⟩
      case measure => have := HLT.out; simp [intOf]; omega
end Go.Proofs.Ytflehdigikdhmaa
