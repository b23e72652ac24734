/-
  RegisterFound, out of what Run and Shortest answer.
-/
import Derived.Test.YtflehdigikdhmaaRgA
namespace Go.Proofs.Ytflehdigikdhmaa
open Go.RowKit PK Rg

theorem addr_add0 (a : Addr) : a.add 0 = a := by unfold Addr.add; simp
theorem run_slice_k (a : Option Addr) (n cap k : Nat) (hk : k ≤ cap) (W : World) : (Instr.sliceAt 22 (.slice a n cap) none (some (.int .i64 (k : Int))) none).run Try.prog W = .ok (.slice a k cap) W := by
  have he : Try.prog.elem 22 = 3 := by kernel_rfl
  have hu : Try.prog.underlying 22 = some (.slice (Try.prog.elem 22)) := by rw [he]; exact Try.underlying22
  rw [run_sliceAt_slice (P := Try.prog) (w := W) 22 _ _ _ _ hu, run_slice_h (P := Try.prog) (w := W) 22 _ _ _ hu .i64 (k : Int) (by omega) (by omega), he]
  cases hq : Try.prog.info? 3 with
  | none => have := g_info_int; simp [hq] at this
  | some i =>
    have hs : i.size = 1 := by have := g_info_int; simp [hq] at this; exact this.2.1
    simp [sizeOf, typeInfo, hq, hs, sliced]
    intro _
    cases a with
    | none => rfl
    | some x => simp [addr_add0]
theorem Ans.cut {w : World} {a : Option Addr} {n cap k : Nat} {f : Nat → Int} (h : Ans w (.slice a n cap) n f) (hk : k ≤ n) : Ans w (.slice a k cap) k f := by
  obtain ⟨⟨a1, c1, e, hc⟩, a2, c2, e2, hm, hx⟩ := h
  cases e
  cases e2
  exact ⟨⟨a, cap, rfl, by omega⟩, a, cap, rfl, by omega, fun c hc' => hx c (by omega)⟩
theorem fr_ok {n : Nat} {f : Nat → Int} (h : ∀ i, i < n → f i = 0 ∨ f i = 1) : frB n f = true := (frB_iff n f).2 h
theorem rsE_ok {n : Nat} {f : Nat → Int} (hn : n ≤ 256) (h : ∀ i, i < n → f i = 0 ∨ f i = 1) : rsE n f = 0 := by
  unfold rsE
  rw [if_neg (by omega), if_neg (by rw [fr_ok h]; simp)]
theorem rrE_ok {n : Nat} {f g : Nat → Int} {k : Int} (hn : n ≤ 256) (hk0 : 0 ≤ k) (hk : k ≤ 65536) (hf : ∀ i, i < n → f i = 0 ∨ f i = 1) (hg : ∀ i, i < n → g i = 0 ∨ g i = 1) : rrE n n f g k = 0 := by
  unfold rrE
  rw [if_neg (by omega), if_neg]
  rw [fr_ok hf, fr_ok hg]
  simp
  omega
theorem tap01 (x : Nat → Bool) (i : Nat) : (if x i = true then (1 : Int) else 0) = 0 ∨ (if x i = true then (1 : Int) else 0) = 1 := by
  cases x i <;> simp
theorem bt_tap (x : Nat → Bool) : (fun k => bt ((if x k = true then (1 : Int) else 0)).toNat) = x := funext fun k => by
  cases h : x k <;> simp [bt]
/-- Run with the taps x, begun with f, makes f again. -/
theorem run_again {f : Nat → Int} {x : Nat → Bool} {L N : Nat} (hf : ∀ i, i < N → f i = 0 ∨ f i = 1) (hm : Makes x L (sB f) N) : ∀ i, i < N → runF L (fun c => if x c = true then 1 else 0) f (N : Nat) i = f i := by
  intro i hi
  have h1 : Makes (fun k => bt ((if x k = true then (1 : Int) else 0)).toNat) L (fun i => bt (f i).toNat) N := by rw [bt_tap]; exact hm
  have h2 := (run_makes (t := fun k => (if x k = true then (1 : Int) else 0).toNat) (f := fun i => (f i).toNat) (L := L) (N := N) (fun i hi => by show (f i).toNat ≤ 1; rcases hf i hi with h | h <;> rw [h] <;> decide)).2 h1 i hi
  unfold runF
  show (((rgB (fun k => (if x k = true then (1 : Int) else 0).toNat) (fun k => (f k).toNat) L ((N : Nat) : Int).toNat).getD i 0 : Nat) : Int) = f i
  rw [Int.toNat_natCast, h2]
  rcases hf i hi with h | h <;> rw [h] <;> rfl
theorem runF_bit (nt : Nat) (ft fs : Nat → Int) (n : Int) (i : Nat) : runF nt ft fs n i = 0 ∨ runF nt ft fs n i = 1 := by
  unfold runF
  have := rgB_bit (fun k => (ft k).toNat) (fun k => (fs k).toNat) nt n.toNat i
  omega
theorem runF_makes (nt : Nat) (ft fs : Nat → Int) (n : Int) : Makes (fun k => bt (ft k).toNat) nt (sB (runF nt ft fs n)) n.toNat := by
  have := rgB_makes (fun k => (ft k).toNat) (fun k => (fs k).toNat) nt n.toNat
  have e : sB (runF nt ft fs n) = fun i => bt ((rgB (fun k => (ft k).toNat) (fun k => (fs k).toNat) nt n.toNat).getD i 0) := funext fun i => by
    unfold sB runF
    rw [Int.toNat_natCast]
  rw [e]
  exact this
set_option maxRecDepth 100000 in
set_option maxHeartbeats 4000000 in
theorem registerfound_of (P7 : PRun 7) (P12 : PShort 12) (vt vs : Value) (nt ns : Nat) (ft fs : Nat → Int) (more : Int) (w : World) (ht : Ans w vt nt ft) (hs : Ans w vs ns fs) : Calls Try.prog 6 #[vt, vs, .int .i64 more] w fun e w' => e = .returned (.bool true) ∧ Below w.heap.size w w' := by
  have HAL := (show Hid (∀ W, Calls Try.prog 14 #[] W fun e w' => e = .returned (.bool true) ∧ Below W.heap.size W w') from alive11 P7)
  have HP7 := (show Hid (PRun 7) from P7)
  have HP12 := (show Hid (PShort 12) from P12)
  have HT := (show Hid (Ans w vt nt ft) from ht)
  have HS := (show Hid (Ans w vs ns fs) from hs)
  obtain ⟨⟨av, cv, rfl, _⟩, _, _, e, hmx, _⟩ := ht
  cases e
  unfold maxLen at hmx
  clear P7 P12 hs
  go_enter Try.func6, Try.ntmps6
  go_wp2_with fail
  refine (HAL.out _).mono ?_
  rintro e W1 ⟨rfl, hb1⟩
  have HB1 := (show Hid (Below w.heap.size w W1) from hb1)
  clear hb1 HAL
  by_cases hm0 : more < 0
  · go_wp2
    go_ret
    exact ⟨rfl, HB1.out⟩
  by_cases hm1 : 200 < more
  · go_wp2
    go_ret
    exact ⟨rfl, HB1.out⟩
  by_cases hbig : 256 < nt
  · have H7 := (show Hid (∀ z W, Below w.heap.size w W → Calls Try.prog 7 #[.slice av nt cv, vs, .int .i64 z] W fun e w' => ∃ v, e = .returned (.tuple #[v, .int .i64 8]) ∧ Below W.heap.size W w') from fun z W hb => by
      have hE8 : rrE nt ns ft fs z = 8 := by unfold rrE; rw [if_pos (.inl hbig)]
      refine (HP7.out _ vs nt ns ft fs z W (HT.out.below hb) (HS.out.below hb)).mono ?_
      rintro e w' ⟨v, h1, _, h3⟩
      rw [hE8] at h1
      exact ⟨v, h1, h3⟩)
    clear hmx hbig HP7 HP12 HT HS
    by_cases hz : 256 < wrap64 (2 * (nt : Int))
    · go_wp2
      go_ret
      exact ⟨rfl, HB1.out⟩
    · go_wp2_with fail
      refine (H7.out _ _ HB1.out).mono ?_
      rintro e W2 ⟨v2, rfl, hb2⟩
      have HB2 := (show Hid (Below w.heap.size w W2) from HB1.out.trans (hb2.mono HB1.out.size))
      clear hb2 H7
      go_wp2
      go_ret
      exact ⟨rfl, HB2.out⟩
  have hmx2 : nt ≤ 256 := by omega
  clear hmx hbig
  by_cases hm2 : 256 < 2 * (nt : Int)
  · go_wp2
    go_ret
    exact ⟨rfl, HB1.out⟩
  obtain ⟨q, rfl⟩ : ∃ q : Nat, more = (q : Nat) := ⟨more.toNat, by omega⟩
  have hq : q ≤ 200 := by omega
  have hnt : nt ≤ 128 := by omega
  obtain ⟨N, hN⟩ : ∃ N, N = 2 * nt + q := ⟨_, rfl⟩
  have hNi : 2 * (nt : Int) + (q : Int) = ((N : Nat) : Int) := by omega
  have H7 := (show Hid (Calls Try.prog 7 #[.slice av nt cv, vs, .int .i64 (2 * (nt : Int) + (q : Int))] W1 fun e w' => ∃ v, e = .returned (.tuple #[v, .int .i64 (rrE nt ns ft fs ((N : Nat) : Int))]) ∧ Ans w' v (rl (rrE nt ns ft fs ((N : Nat) : Int)) N) (runF nt ft fs ((N : Nat) : Int)) ∧ Below W1.heap.size W1 w') from by
    have := HP7.out _ vs nt ns ft fs ((N : Nat) : Int) W1 (HT.out.below HB1.out) (HS.out.below HB1.out)
    rw [hNi]
    exact this)
  have HNI := (show Hid _ from hNi)
  have HN := (show Hid _ from hN)
  clear hNi hN
  go_wp2_with fail
  refine Calls.mono H7.out ?_
  rintro e W2 ⟨v2, rfl, ha, hb2⟩
  have HB2 := (show Hid (Below w.heap.size w W2) from HB1.out.trans (hb2.mono HB1.out.size))
  clear hb2 H7
  by_cases hE : rrE nt ns ft fs ((N : Nat) : Int) = 0
  case neg =>
    generalize rrE nt ns ft fs ((N : Nat) : Int) = E at *
    have hd1 : (E != 0) = true := by simp [hE]
    clear hE ha
    go_wp2
    go_ret
    exact ⟨rfl, HB2.out⟩
  rw [hE] at ha ⊢
  have hr0 : rl 0 N = N := rfl
  rw [hr0] at ha
  have hfb := runF_bit nt ft fs ((N : Nat) : Int)
  have hfm := runF_makes nt ft fs ((N : Nat) : Int)
  rw [Int.toNat_natCast] at hfm
  generalize runF nt ft fs ((N : Nat) : Int) = f at *
  have HFB := (show Hid (∀ i, f i = 0 ∨ f i = 1) from hfb)
  have HFM := (show Hid (Makes (fun k => bt (ft k).toNat) nt (sB f) N) from hfm)
  have HA := (show Hid (Ans W2 v2 N f) from ha)
  obtain ⟨⟨a, cap, rfl, hcap⟩, _⟩ := ha
  have hE2 : rsE (2 * nt) f = 0 := rsE_ok (by omega) fun i _ => hfb i
  have H12 := (show Hid (Calls Try.prog 12 #[.slice a (2 * nt) cap] W2 fun e w' => ∃ (v' : Value) (L : Nat) (x : Nat → Bool), e = .returned (.tuple #[v', .int .i64 0]) ∧ (Least (sB f) (2 * nt) L ∧ First (sB f) L (2 * nt) x) ∧ Ans w' v' L (fun c => if x c = true then 1 else 0) ∧ Below W2.heap.size W2 w') from by
    refine (HP12.out _ (2 * nt) f W2 (HA.out.cut (by have := HN.out; omega))).mono ?_
    rintro e w' ⟨v', L, x, h1, h2, h3, h4⟩
    rw [hE2] at h1 h3
    exact ⟨v', L, x, h1, h2 hE2, h3, h4⟩)
  have hsl : ∀ W : World, (Instr.sliceAt 22 (.slice a N cap) none (some (.int .i64 (2 * (nt : Int)))) none).run Try.prog W = .ok (.slice a (2 * nt) cap) W := fun W => by
    have := run_slice_k a N cap (2 * nt) (by have := HN.out; omega) W
    rwa [show ((2 * nt : Nat) : Int) = 2 * (nt : Int) by omega] at this
  clear hfb hfm hE2 hr0 hE HS HB1
  go_wp2_with fail
  refine Calls.mono H12.out ?_
  rintro e W3 ⟨v3, L, x, rfl, ⟨hle, hfi⟩, ha3, hb3⟩
  have hLn : L ≤ nt := hle.2 nt ⟨_, HFM.out.mono (by have := HN.out; omega)⟩
  have hmk : Makes x L (sB f) N := found HFM.out hfi.1 hLn
  have HRA := (show Hid (∀ i, i < N → runF L (fun c => if x c = true then 1 else 0) f (N : Nat) i = f i) from run_again (fun i _ => HFB.out i) hmk)
  have HB3 := (show Hid (Below w.heap.size w W3) from HB2.out.trans (hb3.mono HB2.out.size))
  have HAL3 := (show Hid (Ans W3 (.slice a N cap) N f) from HA.out.below hb3)
  have hE3 : rrE L L (fun c => if x c = true then 1 else 0) f ((N : Nat) : Int) = 0 := rrE_ok (by omega) (by omega) (by have := HN.out; omega) (fun i _ => tap01 x i) (fun i _ => HFB.out i)
  have H7 := (show Hid (Calls Try.prog 7 #[v3, .slice a L cap, .int .i64 (2 * (nt : Int) + (q : Int))] W3 fun e w' => ∃ v, e = .returned (.tuple #[v, .int .i64 0]) ∧ Ans w' v N f ∧ Below W3.heap.size W3 w') from by
    rw [HNI.out]
    refine (HP7.out v3 (.slice a L cap) L L (fun c => if x c = true then 1 else 0) f ((N : Nat) : Int) W3 ha3 (HAL3.out.cut (by have := HN.out; omega))).mono ?_
    rintro e w' ⟨v, h1, h2, h3⟩
    rw [hE3] at h1 h2
    refine ⟨v, h1, ?_, h3⟩
    have h4 : rl 0 ((N : Nat) : Int).toNat = N := by rw [Int.toNat_natCast]; rfl
    rw [h4] at h2
    exact ⟨h2.1, nums_ext h2.2 HRA.out⟩)
  have hL2 : ¬ (nt : Int) < (L : Int) := by omega
  have hsl2 := run_slice_k a N cap L (by have := HN.out; omega)
  obtain ⟨⟨a3, c3, rfl, _⟩, _⟩ := ha3
  clear hle hfi hb3 hE3 hmk HA H12 hLn HP7 HP12 HB2 hsl
  go_wp2_with fail
  refine Calls.mono H7.out ?_
  rintro e W4 ⟨v4, rfl, ha4, hb4⟩
  have HB4 := (show Hid (Below w.heap.size w W4) from HB3.out.trans (hb4.mono HB3.out.size))
  have HSM := (show Hid (Calls Try.prog 9 #[v4, .slice a N cap] W4 fun e w' => e = .returned (.bool true) ∧ Below W4.heap.size W4 w') from by
    have := rsm_any v4 (.slice a N cap) N N f f W4 ha4.2 (HAL3.out.below hb4).2
    rw [smB_iff.2 ⟨rfl, fun _ _ => rfl⟩] at this
    exact this)
  clear ha4 hb4 H7 HAL3 HB3 hsl2
  go_wp2_with fail
  refine Calls.mono HSM.out ?_
  rintro e W5 ⟨rfl, hb5⟩
  have HB5 := (show Hid (Below w.heap.size w W5) from HB4.out.trans (hb5.mono HB4.out.size))
  clear hb5 HSM HB4
  go_wp2
  go_ret
  exact ⟨by simp, HB5.out⟩
end Go.Proofs.Ytflehdigikdhmaa
