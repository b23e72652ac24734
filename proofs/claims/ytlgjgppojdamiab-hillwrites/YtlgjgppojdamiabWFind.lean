/-
  Contracts of hill.columns and hill.Find.
-/
import Derived.Test.YtlgjgppojdamiabWEnc
import Derived.Test.YtlgjgppojdamiabHInv
import Derived.Test.YtlgjgppojdamiabHMath
namespace Go.Proofs.Ytlgjgppojdamiab
open Go.RowKit PK

/-- The first n pieces, one beside the other. -/
def colF (n : Nat) (t : List UInt8) : Nat → Nat → Int := fun y x => num (t.getD (n * x + y) 0)
theorem col_lt {n y x : Nat} (hy : y < n) (hx : x < n) : n * x + y < n * n := by
  have h1 : n * (x + 1) ≤ n * n := Nat.mul_le_mul_left n hx
  rw [Nat.mul_succ] at h1
  omega
theorem col_good {n : Nat} (h1 : 1 ≤ n) (h4 : n ≤ 4) {t : List UInt8} (hl : Pl.Lets t) (hn : n * n ≤ t.length) : GoodM n (colF n t) :=
  ⟨h1, h4, fun y hy x hx => (num_bound hl (n * x + y) (Nat.lt_of_lt_of_le (col_lt hy hx) hn)).1⟩
set_option maxHeartbeats 1000000 in
theorem col1_any (s : ByteArray) (hl : Pl.Lets s.data.toList) (hs : s.size ≤ 70000) (n : Nat) (bt bn : Nat) (w : World) (hbt : w.cell? ⟨bt, 0, none⟩ = some (.string s)) (hbn : w.cell? ⟨bn, 0, none⟩ = some (.int .i64 (n : Nat))) (y x : Nat) (hy : y < n) (hx : x < n) (hn : n * n ≤ s.size) :
    Calls Try.prog 70 #[.int .i64 (y : Nat), .int .i64 (x : Nat), .pointer (some ⟨bt, 0, none⟩), .pointer (some ⟨bn, 0, none⟩)] w fun e w' => e = .returned (.int .i64 (colF n s.data.toList y x)) ∧ Below w.heap.size w w' := by
  have hlt := Nat.lt_of_lt_of_le (col_lt hy hx) hn
  have HC : Hid (colF n s.data.toList y x = num (s.data.toList.getD (n * x + y) 0)) := rfl
  obtain ⟨p, hp⟩ : ∃ p, p = n * x := ⟨_, rfl⟩
  rw [← hp] at hlt HC
  have hpw : IntKind.i64.wrap (((n : Nat) : Int) * ((x : Nat) : Int)) = ((p : Nat) : Int) := by
    rw [← Int.natCast_mul, ← hp, IntKind.wrap_i64]; omega
  clear hp
  have hb := num_bound hl (p + y) (by have := Pl.size_len s; omega)
  have HE : Hid (num (s.data.toList.getD (p + y) 0) = (((s[p + y]).toNat : Nat) : Int) - 65) := by rw [Hid, getD_byte s (p + y) hlt]; rfl
  have hb2 : 65 ≤ (s[p + y]).toNat ∧ (s[p + y]).toNat ≤ 90 := by rw [← getD_byte s (p + y) hlt]; exact hb.2
  have HN := (show Hid (∀ W, Calls Try.prog 56 #[.int .u8 (((s[p + y]).toNat : Nat) : Int)] W fun e w' => e = .returned (.int .i64 ((((s[p + y]).toNat : Nat) : Int) - 65)) ∧ W = w') from fun W => num_any _ hb2.1 hb2.2 W)
  have hi : ((p : Nat) : Int) + ((y : Nat) : Int) < ((s.size : Nat) : Int) := by omega
  clear hb hb2 hl
  go_enter Try.func70, Try.ntmps70
  go_wp2_with fail
  refine Calls.mono (HN.out w) ?_
  rintro e W1 ⟨rfl, rfl⟩
  go_wp2
  go_ret
  exact ⟨ret_int (by rw [HC.out, HE.out]), Below.refl _ _⟩
set_option maxHeartbeats 1000000 in
theorem columns_any (s : ByteArray) (hl : Pl.Lets s.data.toList) (hs : s.size ≤ 70000) (n : Nat) (h4 : n ≤ 4) (hn : n * n ≤ s.size) (w : World) :
    Calls Try.prog 59 #[.int .i64 (n : Nat), .string s] w fun e w' => ∃ v, e = .returned v ∧ MatAt w' v n (fun _ => n) (colF n s.data.toList) ∧ Below w.heap.size w w' := by
  have hmf : ∀ (fn : Fn) (first cap : Array Value) (w : World), (Instr.makeFunc fn first cap).run Try.prog w = .ok (.func fn first cap) w := fun _ _ _ _ => rfl
  go_enter Try.func59, Try.ntmps59
  go_wp2_with fail
  obtain ⟨q1, q2, hb, hz⟩ := two_new w #[.int .i64 (n : Nat)] #[.string s] 3 9
  generalize (w.alloc (.cells #[.int .i64 (n : Nat)] 3)).alloc (.cells #[.string s] 9) = W0 at *
  refine Calls.mono (made_any n h4 (colF n s.data.toList) 70 #[.pointer (some ⟨w.heap.size + 1, 0, none⟩), .pointer (some ⟨w.heap.size, 0, none⟩)] W0 (by intro args W; go_simp) (fun y hy x hx W hW => col1_any s hl hs n _ _ W ((q2.below hW q2.lt).cell rfl) ((q1.below hW q1.lt).cell rfl) y x hy hx hn)) ?_
  rintro e W2 ⟨x, rfl, hx, hb2⟩
  go_wp2
  go_ret
  exact ⟨_, rfl, hx, hb.trans (hb2.mono (by omega))⟩
/-- Where no letter is wrong. -/
theorem check_ok0 (s : ByteArray) (h1 : ckE s.data.toList = 0) (h2 : ckAt s.data.toList = 0) (W : World) : Calls Try.prog 53 #[.string s] W fun e w' => e = .returned (.agg #[.int .i64 0, .int .i64 0]) ∧ Below W.heap.size W w' := by
  have := check_all s W
  rw [h1, h2] at this
  exact this
/-- What Find answers. -/
def fErr (n : Nat) (A : Nat → Nat → Int) : Int := (recOf (detL n A)).2
def FindIs (w : World) (v : Value) (n : Nat) (A B : Nat → Nat → Int) : Prop := if fErr n A = 0 then MatAt w v n (fun _ => n) (mulL n B (invL n A)) else v = .slice none 0 0
set_option maxRecDepth 100000 in
set_option maxHeartbeats 2000000 in
/-- Find, as far as both texts are fine: what follows is F's business. -/
theorem find_head (n : Nat) (h1 : 1 ≤ n) (h4 : n ≤ 4) (s t : ByteArray) (hs1 : ckE s.data.toList = 0) (hs2 : ckAt s.data.toList = 0) (ht1 : ckE t.data.toList = 0) (ht2 : ckAt t.data.toList = 0) (hsl : Pl.Lets s.data.toList) (htl : Pl.Lets t.data.toList) (hs : s.size ≤ 65536) (ht : t.size ≤ 65536) (hns : n * n ≤ s.size) (hnt : n * n ≤ t.size) (w : World) :
    Calls Try.prog 28 #[.int .i64 (n : Nat), .string s, .string t] w fun e w' => ∃ v, e = .returned (.tuple #[v, .int .i64 (fErr n (colF n s.data.toList))]) ∧ FindIs w' v n (colF n s.data.toList) (colF n t.data.toList) ∧ Below w.heap.size w w' := by
  have HC1 := (show Hid (∀ W, Calls Try.prog 53 #[.string s] W fun e w' => e = .returned (.agg #[.int .i64 0, .int .i64 0]) ∧ Below W.heap.size W w') from check_ok0 s hs1 hs2)
  have HC2 := (show Hid (∀ W, Calls Try.prog 53 #[.string t] W fun e w' => e = .returned (.agg #[.int .i64 0, .int .i64 0]) ∧ Below W.heap.size W w') from check_ok0 t ht1 ht2)
  have HK1 := (show Hid (∀ W, Calls Try.prog 59 #[.int .i64 (n : Nat), .string s] W fun e w' => ∃ v, e = .returned v ∧ MatAt w' v n (fun _ => n) (colF n s.data.toList) ∧ Below W.heap.size W w') from fun W => columns_any s hsl (by omega) n h4 hns W)
  have HK2 := (show Hid (∀ W, Calls Try.prog 59 #[.int .i64 (n : Nat), .string t] W fun e w' => ∃ v, e = .returned v ∧ MatAt w' v n (fun _ => n) (colF n t.data.toList) ∧ Below W.heap.size W w') from fun W => columns_any t htl (by omega) n h4 hnt W)
  have HG1 := (show Hid (GoodM n (colF n s.data.toList)) from col_good h1 h4 hsl (by have := Pl.size_len s; omega))
  have HG2 := (show Hid (GoodM n (colF n t.data.toList)) from col_good h1 h4 htl (by have := Pl.size_len t; omega))
  generalize colF n s.data.toList = A at *
  generalize colF n t.data.toList = B at *
  obtain ⟨p, hp⟩ : ∃ p, p = n * n := ⟨_, rfl⟩
  have hpw : IntKind.i64.wrap (((n : Nat) : Int) * ((n : Nat) : Int)) = ((p : Nat) : Int) := by
    have : n * n ≤ 16 := Nat.mul_le_mul h4 h4
    rw [← Int.natCast_mul, ← hp, IntKind.wrap_i64]; omega
  rw [← hp] at hns hnt
  have hm1 : ((p : Nat) : Int) ≤ ((s.size : Nat) : Int) := by omega
  have hm2 : ((p : Nat) : Int) ≤ ((t.size : Nat) : Int) := by omega
  clear hp hsl htl hs1 hs2 ht1 ht2
  have hn1 : ¬ ((n : Nat) : Int) < 1 := by omega
  have hn4 : ¬ (4 : Int) < ((n : Nat) : Int) := by omega
  go_enter Try.func28, Try.ntmps28
  go_wp2
  have qs := RowAt.new w 9 #[.string s, .string t]
  have hb0 : Below w.heap.size w (w.alloc (.cells #[.string s, .string t] 9)) := (Below.refl _ _).alloc (Nat.le_refl _) _
  generalize w.alloc (.cells #[.string s, .string t] 9) = W0 at *
  go_loopw [23] (fun i W => ∃ m : Nat, m ≤ 2 ∧ i = .int .i64 m ∧ RowAt W w.heap.size 9 #[.string s, .string t] ∧ Below w.heap.size w W) (fun i _ => (2 - intOf i).toNat)
  case atStart => exact ⟨0, by omega, rfl, qs, hb0⟩
  case round =>
    clear qs hb0
    obtain ⟨m, hm, rfl, qs, hb⟩ := hrel
    have hz := hb.size
    have hql := qs.lt
    obtain rfl | rfl | rfl : m = 0 ∨ m = 1 ∨ m = 2 := by omega
    · have c0 := qs.cell (i := 0) rfl
      go_wp2_with fail
      refine Calls.mono (HC1.out _) ?_
      rintro e W1 ⟨rfl, hc⟩
      have hz1 := hc.size
      go_wp2
      go_roundw
      case rel => exact ⟨1, by omega, rfl, (qs.below hc hql).alloc _, (hb.trans (hc.mono hz)).alloc (by omega) _⟩
      case measure => simp [intOf]
    · have c0 := qs.cell (i := 1) rfl
      go_wp2_with fail
      refine Calls.mono (HC2.out _) ?_
      rintro e W1 ⟨rfl, hc⟩
      have hz1 := hc.size
      go_wp2
      go_roundw
      case rel => exact ⟨2, by omega, rfl, (qs.below hc hql).alloc _, (hb.trans (hc.mono hz)).alloc (by omega) _⟩
      case measure => simp [intOf]
    · have hmin : ¬ min ((s.size : Nat) : Int) ((t.size : Nat) : Int) < ((p : Nat) : Int) := by omega
      clear HC1 HC2
      go_wp2_with fail
      refine Calls.mono (HK1.out _) ?_
      rintro e W1 ⟨v1, rfl, hv1, hc⟩
      have hz1 := hc.size
      replace hb := hb.trans (hc.mono hz)
      clear hc
      go_wp2_with fail
      rcases recOf_cases (detL n A) with hr | hr
      · refine Calls.mono (hinv_ok v1 n (fun _ => n) A HG1.out (fun _ _ => rfl) hr W1 hv1) ?_
        rintro e W2 ⟨v2, rfl, hv2, hc⟩
        have hz2 := hc.size
        replace hb := hb.trans (hc.mono (by omega))
        clear hc
        have HR : Hid (fErr n A = 0) := hr
        clear hr
        go_wp2_with fail
        refine Calls.mono (HK2.out _) ?_
        rintro e W3 ⟨v3, rfl, hv3, hc⟩
        have hz3 := hc.size
        replace hv2 := hv2.below hc
        replace hb := hb.trans (hc.mono (by omega))
        clear hc
        go_wp2_with fail
        refine Calls.mono (hprod_ok v3 v2 n (fun _ => n) (fun _ => n) B (invL n A) HG2.out (fun _ _ => rfl) (good_inv h1 h4 A) (fun _ _ => rfl) W3 hv3 hv2) ?_
        rintro e W4 ⟨v4, rfl, hv4, hc⟩
        replace hb := hb.trans (hc.mono (by omega))
        clear hc
        go_wp2
        go_ret2
        exact ⟨_, by rw [HR.out]; rfl, by unfold FindIs; rw [if_pos HR.out]; exact hv4, hb⟩
      · refine Calls.mono (hinv_none v1 n (fun _ => n) A HG1.out (fun _ _ => rfl) hr W1 hv1) ?_
        rintro e W2 ⟨rfl, hc⟩
        have hz2 := hc.size
        replace hb := hb.trans (hc.mono (by omega))
        clear hc
        have HR : Hid (fErr n A = 6) := hr
        clear hr
        go_wp2
        go_ret2
        exact ⟨_, by rw [HR.out]; rfl, by unfold FindIs; rw [HR.out, if_neg (by decide)]; rfl, hb⟩
end Go.Proofs.Ytlgjgppojdamiab
