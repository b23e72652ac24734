/-
  TeleDelta: the walk.
-/
import Derived.Test.YtbcjblakknfhmaaLTeU
namespace Go.Proofs.Ytbcjblakknfhmaa
open Go.RowKit PK Tl

theorem delta_adds {T : Te} {f : Nat → Int} {i : Nat} : (dlN f i).toNat ^^^ (dlN (fun i => ((keyN T i : Nat) : Int)) i).toNat = (dlN (wrN T f) i).toNat := by
  show ((f i).toNat ^^^ (f (i + 1)).toNat) ^^^ (keyN T i ^^^ keyN T (i + 1)) = ((f i).toNat ^^^ keyN T i) ^^^ ((f (i + 1)).toNat ^^^ keyN T (i + 1))
  generalize (f i).toNat = a
  generalize (f (i + 1)).toNat = b
  generalize keyN T i = c
  generalize keyN T (i + 1) = d
  rw [Nat.xor_assoc, Nat.xor_assoc, ← Nat.xor_assoc b c d, Nat.xor_comm b c, Nat.xor_assoc]
theorem dlN_range {f : Nat → Int} {i : Nat} (h1 : 0 ≤ f i ∧ f i ≤ 31) (h2 : 0 ≤ f (i + 1) ∧ f (i + 1) ≤ 31) : 0 ≤ dlN f i ∧ dlN f i ≤ 31 := by
  unfold dlN
  have h : (f i).toNat ^^^ (f (i + 1)).toNat < 32 := xor_lt32 (by omega) (by omega)
  omega
set_option maxRecDepth 100000 in
set_option maxHeartbeats 8000000 in
theorem teledelta_of (v : Value) (T : Te) (vt : Value) (m : Nat) (f : Nat → Int) (w : World) (hd : TeAt w v T) (ht : NumsAt w vt m f) : Calls Try.prog 6 #[v, vt] w fun e w' => e = .returned (.bool true) ∧ Below w.heap.size w w' := by
  have H3 := (show Hid (∀ W, Below w.heap.size w W → Calls Try.prog 13 #[v, vt] W fun e w' => ∃ v', e = .returned (.tuple #[v', .int .i64 (twE T m f)]) ∧ NumsAt w' v' (rl (twE T m f) m) (wrN T f) ∧ Below W.heap.size W w') from fun W hb => tele_twt v vt T m f W (hd.below hb) (ht.below hb))
  have H2 := (show Hid (∀ W, Below w.heap.size w W → Calls Try.prog 10 #[v, .int .i64 (m : Nat)] W fun e w' => ∃ v', e = .returned (.tuple #[v', .int .i64 (kyE T (m : Nat))]) ∧ NumsAt w' v' (rl (kyE T (m : Nat)) m) (fun i => ((keyN T i : Nat) : Int)) ∧ Below W.heap.size W w') from fun W hb => tele_tky v T (m : Nat) W (hd.below hb))
  have H4 := (show Hid (∀ W x k h, NumsAt W x k h → faE k h = 0 → Calls Try.prog 15 #[x] W fun e w' => ∃ v', e = .returned (.tuple #[v', .int .i64 0]) ∧ NumsAt w' v' (k - 1) (dlN h) ∧ Below W.heap.size W w') from fun W x k h hx hE => by have := tele_tde x k h W hx; rw [hE, rl_zero] at this; exact this)
  obtain ⟨R, rfl, _⟩ := hd
  have HT := (show Hid (∀ W, Below w.heap.size w W → NumsAt W vt m f) from fun W hb => ht.below hb)
  obtain ⟨a1, c1, rfl, hm1, _⟩ := ht
  have h0 := TgAt.new w R T.pl
  unfold maxLen at hm1
  go_enter Try.func6, Try.ntmps6
  go_upto_region 1 with fail
  generalize w.alloc (.cells (teA R T.pl) 27) = W0 at *
  go_wp2_with fail
  refine (alive13 W0).mono ?_
  rintro e W1 ⟨rfl, hb⟩
  have h1 := h0.step hb
  clear hb h0
  go_wp2_with (first | refine wpList_load_row rfl 27 _ rfl w.heap.size rfl 27 (teA R T.pl) (0, 0) _ h1.row Try.underlying27 rfl (by rw [teA_size]; exact t_info_tele) ?_)
  refine (H3.out _ h1.below).mono ?_
  rintro e W2 ⟨vs, rfl, hs, hb⟩
  have h2 := h1.step hb
  clear hb h1 H3
  by_cases hE : twE T m f = 0
  case neg =>
    have hz2 : (twE T m f != 0) = true := by simpa using hE
    have HBE := (show Hid _ from h2.below)
    generalize twE T m f = E at *
    clear hE h2 hs H2 H4 HT
    go_wp2
    go_ret
    exact ⟨by first | rfl | simp, HBE.out⟩
  obtain ⟨hz, hF⟩ := twE_zero hE
  obtain ⟨hm, hf⟩ := faE_zero hF
  rw [hE] at hs ⊢
  rw [rl_zero] at hs
  have hsF : faE m (wrN T f) = 0 := faE_ok hm (fun c hc => wrN_range (hf c hc))
  have hkF : faE m (fun i => ((keyN T i : Nat) : Int)) = 0 := faE_ok hm (fun c hc => by have := keyN_lt T c; omega)
  have hkE : kyE T (m : Nat) = 0 := by unfold kyE; rw [if_neg (fun h => h hz), if_neg (by omega)]
  rw [hkE] at H2
  obtain ⟨sa, cs, rfl, _, _⟩ := id hs
  go_wp2_with (first | refine wpList_load_row rfl 27 _ rfl w.heap.size rfl 27 (teA R T.pl) (0, 0) _ h2.row Try.underlying27 rfl (by rw [teA_size]; exact t_info_tele) ?_)
  refine (H2.out _ h2.below).mono ?_
  rintro e W3 ⟨vk, rfl, hk, hb⟩
  rw [rl_zero] at hk
  have h3 := h2.step hb
  have hs3 := hs.below hb
  clear hb h2 hs H2
  obtain ⟨ka, ck, rfl, _, _⟩ := id hk
  go_wp2_with fail
  refine (H4.out _ _ m f (HT.out _ h3.below) hF).mono ?_
  rintro e W4 ⟨va, rfl, ha, hb⟩
  have h4 := h3.step hb
  have hs4 := hs3.below hb
  have hk4 := hk.below hb
  clear hb h3 hs3 hk HT
  obtain ⟨aa, ca, rfl, _, _⟩ := id ha
  go_wp2_with fail
  refine (H4.out _ _ m _ hk4 hkF).mono ?_
  rintro e W5 ⟨vb, rfl, hbb, hb⟩
  have h5 := h4.step hb
  have hs5 := hs4.below hb
  have ha5 := ha.below hb
  clear hb h4 hs4 hk4 ha hkF
  obtain ⟨ab, cb, rfl, _, _⟩ := id hbb
  go_wp2_with fail
  refine (H4.out _ _ m _ hs5 hsF).mono ?_
  rintro e W6 ⟨vc, rfl, hc, hb⟩
  have h6 := h5.step hb
  have ha6 := ha5.below hb
  have hb6 := hbb.below hb
  clear hb h5 hs5 ha5 hbb hsF H4
  obtain ⟨_, _, e1, _, hca⟩ := ha6
  cases e1
  obtain ⟨_, _, e2, _, hcb⟩ := hb6
  cases e2
  obtain ⟨ac, cc, rfl, _, hcc⟩ := hc
  have HCA := (show Hid (∀ c, c < m - 1 → ∃ b o, aa = some ⟨b, o, none⟩ ∧ W6.cell? ⟨b, o + c, none⟩ = some (.int .i64 (dlN f c))) from hca)
  have HCB := (show Hid (∀ c, c < m - 1 → ∃ b o, ab = some ⟨b, o, none⟩ ∧ W6.cell? ⟨b, o + c, none⟩ = some (.int .i64 (dlN (fun i => ((keyN T i : Nat) : Int)) c))) from hcb)
  have HCC := (show Hid (∀ c, c < m - 1 → ∃ b o, ac = some ⟨b, o, none⟩ ∧ W6.cell? ⟨b, o + c, none⟩ = some (.int .i64 (dlN (wrN T f) c))) from hcc)
  have HF := (show Hid _ from hf)
  have HBE := (show Hid (Below w.heap.size w W6) from h6.below)
  have HM := (show Hid (m - 1 ≤ m - 1) from Nat.le_refl _)
  have HR1 := (show Hid (∀ i, i < m - 1 → i < m ∧ i + 1 < m) from fun i hi => by omega)
  have hk6 : m - 1 ≤ 65536 := by omega
  obtain ⟨k, hkk⟩ : ∃ k, k = m - 1 := ⟨_, rfl⟩
  rw [← hkk] at HCA HCB HCC HR1 hk6 ⊢
  clear hca hcb hcc hf h6 hE hz hF HM hkk hkE
  have hk0 : (((k : Nat) : Int) != ((k : Nat) : Int)) = false := by simp
  go_wp2_with fail
  go_loopw [78] (fun x W => ∃ i : Nat, i ≤ k ∧ x = .int .i64 (i : Nat) ∧ Below W6.heap.size W6 W) (fun x _ => ((k : Int) - intOf x).toNat)
  case atStart => exact ⟨0, by omega, rfl, Below.refl _ _⟩
  case round =>
    obtain ⟨i, hi, rfl, hbw⟩ := hrel
    by_cases hlt : i < k
    case neg =>
      have HB2 := (show Hid (Below w.heap.size w wr) from HBE.out.trans (hbw.mono HBE.out.size))
      clear HCA HCB HCC HF hbw
      have k1 : ¬ (i : Int) < (k : Int) := by omega
      go_wp2
      go_ret
      exact ⟨by first | rfl | simp, HB2.out⟩
    have HLT : Hid (i < k) := hlt
    have k1 : (i : Int) < (k : Int) := by omega
    obtain ⟨b1, o1, e1, d1⟩ := HCA.out i hlt
    obtain ⟨b2, o2, e2, d2⟩ := HCB.out i hlt
    obtain ⟨b3, o3, e3, d3⟩ := HCC.out i hlt
    subst e1 e2 e3
    have q1 := (hbw.cell (p := ⟨b1, o1 + i, none⟩) (cell_block d1)).trans d1
    have q2 := (hbw.cell (p := ⟨b2, o2 + i, none⟩) (cell_block d2)).trans d2
    have q3 := (hbw.cell (p := ⟨b3, o3 + i, none⟩) (cell_block d3)).trans d3
    have hr := HR1.out i hlt
    have hf1 := HF.out i hr.1
    have hf2 := HF.out (i + 1) hr.2
    have g1 := dlN_range hf1 hf2
    have g2 : 0 ≤ dlN (fun i => ((keyN T i : Nat) : Int)) i ∧ dlN (fun i => ((keyN T i : Nat) : Int)) i ≤ 31 := dlN_range (by have := keyN_lt T i; constructor <;> omega) (by have := keyN_lt T (i + 1); constructor <;> omega)
    have g3 := dlN_range (f := wrN T f) (wrN_range hf1) (wrN_range hf2)
    have hap := delta_adds (T := T) (f := f) (i := i)
    obtain ⟨y1, hy1⟩ : ∃ y : Nat, y = (dlN f i).toNat := ⟨_, rfl⟩
    obtain ⟨y2, hy2⟩ : ∃ y : Nat, y = (dlN (fun i => ((keyN T i : Nat) : Int)) i).toNat := ⟨_, rfl⟩
    obtain ⟨y3, hy3⟩ : ∃ y : Nat, y = (dlN (wrN T f) i).toNat := ⟨_, rfl⟩
    rw [show dlN f i = (y1 : Int) by omega] at q1
    rw [show dlN (fun i => ((keyN T i : Nat) : Int)) i = (y2 : Int) by omega] at q2
    rw [show dlN (wrN T f) i = (y3 : Int) by omega] at q3
    rw [← hy1, ← hy2, ← hy3] at hap
    have hx1 := bits_xor (a := y1) (b := y2) (by omega) (by omega)
    rw [hap] at hx1
    have hzz : (((y3 : Nat) : Int) != ((y3 : Nat) : Int)) = false := by simp
    have HBW := (show Hid (∀ k, Below W6.heap.size W6 (wr.drewN k)) from fun k => ⟨hbw.os, hbw.tape, hbw.output, hbw.size, hbw.block⟩)
    clear d1 d2 d3 hf1 hf2 g1 g2 g3 hap hy1 hy2 hy3 hlt hbw HCA HCB HCC HF HBE HR1 hr
    go_wp2_with fail
    go_quiet (fail)
    go_wp2
    go_roundw
    case rel => exact ⟨i + 1, HLT.out, by go_num, HBW.out _⟩
    case measure => have := HLT.out; simp [intOf]; omega
end Go.Proofs.Ytbcjblakknfhmaa
