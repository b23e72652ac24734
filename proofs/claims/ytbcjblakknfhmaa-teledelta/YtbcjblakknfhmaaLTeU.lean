/-
  TeleUndone: the walk.
-/
import Derived.Test.YtbcjblakknfhmaaTeC
namespace Go.Proofs.Ytbcjblakknfhmaa
open Go.RowKit PK Tl

theorem wrN_range {T : Te} {f : Nat → Int} {i : Nat} (h : 0 ≤ f i ∧ f i ≤ 31) : 0 ≤ wrN T f i ∧ wrN T f i ≤ 31 := by
  unfold wrN
  have h1 : (f i).toNat ^^^ keyN T i < 32 := xor_lt32 (by omega) (keyN_lt T i)
  omega
theorem wrN_nat (T : Te) (f : Nat → Int) (i : Nat) : (wrN T f i).toNat = (f i).toNat ^^^ keyN T i := rfl
theorem wrN_wrN {T : Te} {f : Nat → Int} {i : Nat} (h : 0 ≤ f i) : wrN T (wrN T f) i = f i := by
  show (((wrN T f i).toNat ^^^ keyN T i : Nat) : Int) = f i
  rw [wrN_nat, Nat.xor_assoc, Nat.xor_self, Nat.xor_zero]
  omega
theorem wr_apart (T : Te) (f g : Nat → Int) (i : Nat) : (wrN T f i).toNat ^^^ (wrN T g i).toNat = (f i).toNat ^^^ (g i).toNat := by
  rw [wrN_nat, wrN_nat]
  have : ∀ a b k : Nat, (a ^^^ k) ^^^ (b ^^^ k) = a ^^^ b := fun a b k => by rw [Nat.xor_comm b k, Nat.xor_assoc, ← Nat.xor_assoc k k b, Nat.xor_self, Nat.zero_xor]
  exact this _ _ _
set_option maxRecDepth 100000 in
set_option maxHeartbeats 8000000 in
theorem teleundone_of (v : Value) (T : Te) (vt vo : Value) (m n : Nat) (f g : Nat → Int) (w : World) (hd : TeAt w v T) (ht : NumsAt w vt m f) (ho : NumsAt w vo n g) : Calls Try.prog 5 #[v, vt, vo] w fun e w' => e = .returned (.bool true) ∧ Below w.heap.size w w' := by
  have H3 := (show Hid (∀ W x k h, Below w.heap.size w W → NumsAt W x k h → Calls Try.prog 13 #[v, x] W fun e w' => ∃ v', e = .returned (.tuple #[v', .int .i64 (twE T k h)]) ∧ NumsAt w' v' (rl (twE T k h) k) (wrN T h) ∧ Below W.heap.size W w') from fun W x k h hb hx => tele_twt v x T k h W (hd.below hb) hx)
  obtain ⟨R, rfl, _⟩ := hd
  have HT := (show Hid (∀ W, Below w.heap.size w W → NumsAt W vt m f) from fun W hb => ht.below hb)
  have HO := (show Hid (∀ W, Below w.heap.size w W → NumsAt W vo n g) from fun W hb => ho.below hb)
  obtain ⟨a1, c1, rfl, hm1, _⟩ := ht
  obtain ⟨a2, c2, rfl, hm2, _⟩ := ho
  have h0 := TgAt.new w R T.pl
  unfold maxLen at hm1 hm2
  go_enter Try.func5, Try.ntmps5
  go_upto_region 1 with fail
  generalize w.alloc (.cells (teA R T.pl) 27) = W0 at *
  go_wp2_with fail
  refine (alive13 W0).mono ?_
  rintro e W1 ⟨rfl, hb⟩
  have h1 := h0.step hb
  clear hb h0
  go_wp2_with (first | refine wpList_load_row rfl 27 _ rfl w.heap.size rfl 27 (teA R T.pl) (0, 0) _ h1.row Try.underlying27 rfl (by rw [teA_size]; exact t_info_tele) ?_)
  refine (H3.out _ _ m f h1.below (HT.out _ h1.below)).mono ?_
  rintro e W2 ⟨vs, rfl, hs, hb⟩
  have h2 := h1.step hb
  clear hb h1
  by_cases hE : twE T m f = 0
  case neg =>
    have hz2 : (twE T m f != 0) = true := by simpa using hE
    have HBE := (show Hid _ from h2.below)
    generalize twE T m f = E at *
    clear hE h2 hs H3 HT HO
    go_wp2
    go_ret
    exact ⟨by first | rfl | simp, HBE.out⟩
  obtain ⟨hz, hF⟩ := twE_zero hE
  obtain ⟨hm, hf⟩ := faE_zero hF
  rw [hE] at hs ⊢
  rw [rl_zero] at hs
  have hsF : faE m (wrN T f) = 0 := faE_ok hm (fun c hc => wrN_range (hf c hc))
  have hsE : twE T m (wrN T f) = 0 := by unfold twE; rw [if_neg (fun h => h hz)]; exact hsF
  obtain ⟨sa, cs, rfl, _, hcs⟩ := id hs
  go_wp2_with (first | refine wpList_load_row rfl 27 _ rfl w.heap.size rfl 27 (teA R T.pl) (0, 0) _ h2.row Try.underlying27 rfl (by rw [teA_size]; exact t_info_tele) ?_)
  refine (H3.out _ _ m (wrN T f) h2.below hs).mono ?_
  rintro e W3 ⟨vu, rfl, hu, hb⟩
  have h3 := h2.step hb
  have hs3 := hs.below hb
  rw [hsE] at hu ⊢
  rw [rl_zero] at hu
  have hu2 : NumsAt W3 vu m f := hu.congr fun c hc => wrN_wrN (hf c hc).1
  have HSM := (show Hid (Calls Try.prog 12 #[vu, .slice a1 m c1] W3 fun e w' => e = .returned (.bool true) ∧ Below W3.heap.size W3 w') from by have := rsm_any vu _ m m f f W3 hu2 (HT.out _ h3.below); rw [smB_self] at this; exact this)
  clear hb h2 hs hcs hu hsF hsE
  obtain ⟨au, cu, rfl, _, _⟩ := hu2
  go_wp2_with fail
  refine HSM.out.mono ?_
  rintro e W4 ⟨rfl, hb⟩
  have h4 := h3.step hb
  have hs4 := hs3.below hb
  clear hb h3 hs3 HSM
  go_wp2_with (first | refine wpList_load_row rfl 27 _ rfl w.heap.size rfl 27 (teA R T.pl) (0, 0) _ h4.row Try.underlying27 rfl (by rw [teA_size]; exact t_info_tele) ?_)
  refine (H3.out _ _ n g h4.below (HO.out _ h4.below)).mono ?_
  rintro e W5 ⟨vv, rfl, hv, hb⟩
  have h5 := h4.step hb
  have hs5 := hs4.below hb
  clear hb h4 hs4 H3
  by_cases hE2 : twE T n g = 0
  case neg =>
    have hz2 : (twE T n g != 0) = true := by simpa using hE2
    have HBE := (show Hid _ from h5.below)
    generalize twE T n g = E at *
    clear hE2 h5 hs5 hv HT HO hE hz hF hf
    go_wp2
    go_ret
    exact ⟨by first | rfl | simp, HBE.out⟩
  obtain ⟨_, hG⟩ := twE_zero hE2
  obtain ⟨hn, hg⟩ := faE_zero hG
  rw [hE2] at hv ⊢
  rw [rl_zero] at hv
  obtain ⟨av, cv, rfl, _, hcv⟩ := hv
  obtain ⟨sa', cs', e', _, hcs⟩ := hs5
  cases e'
  obtain ⟨_, _, e1, _, hct⟩ := HT.out _ h5.below
  cases e1
  obtain ⟨_, _, e2, _, hco⟩ := HO.out _ h5.below
  cases e2
  have HCS := (show Hid (∀ c, c < m → ∃ b o, sa = some ⟨b, o, none⟩ ∧ W5.cell? ⟨b, o + c, none⟩ = some (.int .i64 (wrN T f c))) from hcs)
  have HCV := (show Hid (∀ c, c < n → ∃ b o, av = some ⟨b, o, none⟩ ∧ W5.cell? ⟨b, o + c, none⟩ = some (.int .i64 (wrN T g c))) from hcv)
  have HCT := (show Hid (∀ c, c < m → ∃ b o, a1 = some ⟨b, o, none⟩ ∧ W5.cell? ⟨b, o + c, none⟩ = some (.int .i64 (f c))) from hct)
  have HCO := (show Hid (∀ c, c < n → ∃ b o, a2 = some ⟨b, o, none⟩ ∧ W5.cell? ⟨b, o + c, none⟩ = some (.int .i64 (g c))) from hco)
  have HF := (show Hid _ from hf)
  have HG := (show Hid _ from hg)
  have HBE := (show Hid (Below w.heap.size w W5) from h5.below)
  clear hcs hcv hct hco hf hg h5 hE hE2 hz hF hG HT HO
  go_wp2_with fail
  go_loopw [11] (fun x W => ∃ i : Nat, i ≤ m ∧ x = .int .i64 (i : Nat) ∧ Below W5.heap.size W5 W) (fun x _ => ((m : Int) - intOf x).toNat)
  case atStart => exact ⟨0, by omega, rfl, Below.refl _ _⟩
  case round =>
    obtain ⟨i, hi, rfl, hbw⟩ := hrel
    by_cases hlt : i < m ∧ i < n
    case neg =>
      have HB2 := (show Hid (Below w.heap.size w wr) from HBE.out.trans (hbw.mono HBE.out.size))
      clear HCS HCV HCT HCO HF HG hbw
      by_cases h1 : i < m
      · have k1 : (i : Int) < (m : Int) := by omega
        have k2 : ¬ (i : Int) < (n : Int) := by omega
        clear hlt
        go_wp2
        go_ret
        exact ⟨by first | rfl | simp, HB2.out⟩
      · have k1 : ¬ (i : Int) < (m : Int) := by omega
        clear hlt
        go_wp2
        go_ret
        exact ⟨by first | rfl | simp, HB2.out⟩
    obtain ⟨hlm, hln⟩ := hlt
    have HLT : Hid (i < m) := hlm
    have k1 : (i : Int) < (m : Int) := by omega
    have k2 : (i : Int) < (n : Int) := by omega
    obtain ⟨b1, o1, e1, d1⟩ := HCS.out i hlm
    obtain ⟨b2, o2, e2, d2⟩ := HCV.out i hln
    obtain ⟨b3, o3, e3, d3⟩ := HCT.out i hlm
    obtain ⟨b4, o4, e4, d4⟩ := HCO.out i hln
    subst e1 e2 e3 e4
    have q1 := (hbw.cell (p := ⟨b1, o1 + i, none⟩) (cell_block d1)).trans d1
    have q2 := (hbw.cell (p := ⟨b2, o2 + i, none⟩) (cell_block d2)).trans d2
    have q3 := (hbw.cell (p := ⟨b3, o3 + i, none⟩) (cell_block d3)).trans d3
    have q4 := (hbw.cell (p := ⟨b4, o4 + i, none⟩) (cell_block d4)).trans d4
    have hf := HF.out i hlm
    have hg := HG.out i hln
    have hwf := wrN_range (T := T) hf
    have hwg := wrN_range (T := T) hg
    have hap := wr_apart T f g i
    obtain ⟨y1, hy1⟩ : ∃ y : Nat, y = (wrN T f i).toNat := ⟨_, rfl⟩
    obtain ⟨y2, hy2⟩ : ∃ y : Nat, y = (wrN T g i).toNat := ⟨_, rfl⟩
    obtain ⟨y3, hy3⟩ : ∃ y : Nat, y = (f i).toNat := ⟨_, rfl⟩
    obtain ⟨y4, hy4⟩ : ∃ y : Nat, y = (g i).toNat := ⟨_, rfl⟩
    rw [show wrN T f i = (y1 : Int) by omega] at q1
    rw [show wrN T g i = (y2 : Int) by omega] at q2
    rw [show f i = (y3 : Int) by omega] at q3
    rw [show g i = (y4 : Int) by omega] at q4
    rw [← hy1, ← hy2, ← hy3, ← hy4] at hap
    have hx1 := bits_xor (a := y1) (b := y2) (by omega) (by omega)
    have hx2 := bits_xor (a := y3) (b := y4) (by omega) (by omega)
    rw [hap] at hx1
    generalize y3 ^^^ y4 = z at *
    have hzz : (((z : Nat) : Int) != ((z : Nat) : Int)) = false := by simp
    have HBW := (show Hid (∀ k, Below W5.heap.size W5 (wr.drewN k)) from fun k => ⟨hbw.os, hbw.tape, hbw.output, hbw.size, hbw.block⟩)
    clear d1 d2 d3 d4 hf hg hwf hwg hap hy1 hy2 hy3 hy4 hlm hln hbw HCS HCV HCT HCO HF HG HBE
    go_wp2_with fail
    go_quiet (fail)
    go_wp2
    go_roundw
    case rel => exact ⟨i + 1, HLT.out, by go_num, HBW.out _⟩
    case measure => have := HLT.out; simp [intOf]; omega
end Go.Proofs.Ytbcjblakknfhmaa
