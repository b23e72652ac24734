/-
  plain.Office of anything, and alive (chapter 16).
-/
import Derived.Test.YtlfghnngbljlhaaOfP
import Derived.Test.YtlfghnngbljlhaaOfPb
namespace Go.Proofs.Ytlfghnngbljlhaa
open Go.RowKit PK Pd

theorem office_any (n : Int) (vp vw vc : Value) (P : Nat) (p : Nat → Int) (D : Nat) (d : Nat → Int) (K : Nat) (X : Nat → Oc.Sp) (w : World) (hp : NumsAt w vp P p) (hw : NumsAt w vw D d) (hc : StpAt w vc K X) (hwc : ∀ c, vw = .slice none 0 c → c = 0) (hD : D * 8 ≤ 140737488355328) (hK : (K + K / 4 + 192) * 56 ≤ 281474976710656) : Calls Try.prog 6 #[.int .i64 n, vp, vw, vc] w fun e w' => ∃ v u, e = .returned (.tuple #[v, u, .bool true]) ∧ SenAt w' v K (Oc.seen n P p D X (Oc.s0 d)) ∧ NumsAt w' u D (Oc.last n P p D d X K) ∧ Below w.heap.size w w' := by
  by_cases hE : Oc.opE n P p D = 0
  · exact office_ok n vp vw vc P p D d K X w hp hw hc hD hK hE
  · exact office_bad n vp vw vc P p D d K X w hp hw hc hwc hD hK hE
theorem two64 (w : World) (x y : Int) : NumsAt (w.alloc (.cells #[.int .i64 x, .int .i64 y] 2)) (.slice (some ⟨w.heap.size, 0, none⟩) 2 2) 2 (or2 x y) := by
  have e : (#[.int .i64 x, .int .i64 y] : Array Value) = ints 2 (or2 x y) := rfl
  rw [e]
  exact NumsAt.of_row (RowAt.new w _ _) (by decide)
theorem s_zs_stp : (Try.prog.info? 38).map (fun i => (i.zero, i.size)) = some (some (.agg (stc ⟨0, false, false, false, 0, 0, fun _ => 0⟩ (.slice none 0 0))), 6) := by kernel_rfl
/-- The parts of one that was seen. -/
theorem SenAt.part {W : World} {v : Value} {K : Nat} {Z : Nat → Oc.Sn} (h : SenAt W v K Z) : ∃ (a : Option Addr) (cap : Nat) (R : Nat → Value), v = .slice a K cap ∧ K ≤ maxLen ∧ ∀ i, i < K → ∃ b o ar cr, a = some ⟨b, o, none⟩ ∧ R i = .slice ar (Z i).tn cr ∧ W.cell? ⟨b, o + i * 5, none⟩ = some (.int .i64 (Z i).pl) ∧ W.cell? ⟨b, o + i * 5 + 1, none⟩ = some (.slice ar (Z i).tn cr) ∧ W.cell? ⟨b, o + i * 5 + 2, none⟩ = some (.int .i64 (Z i).e1) ∧ W.cell? ⟨b, o + i * 5 + 3, none⟩ = some (.int .i64 (Z i).e2) ∧ W.cell? ⟨b, o + i * 5 + 4, none⟩ = some (.int .i64 (Z i).lf) ∧ W.rangeAt b (o + i * 5) [.int .i64 (Z i).pl, .slice ar (Z i).tn cr, .int .i64 (Z i).e1, .int .i64 (Z i).e2, .int .i64 (Z i).lf] ∧ NumsAt W (.slice ar (Z i).tn cr) (Z i).tn (Z i).tf := by
  obtain ⟨a, cap, R, e, hm, h1, h2⟩ := h
  refine ⟨a, cap, R, e, hm, fun i hi => ?_⟩
  obtain ⟨b, o, e1, h3⟩ := h1 i hi
  have h4 := h2 i hi
  obtain ⟨ar, cr, e2, _⟩ := h4.len
  rw [e2] at h3 h4
  exact ⟨b, o, ar, cr, e1, e2, h3 0 _ rfl, h3 1 _ rfl, h3 2 _ rfl, h3 3 _ rfl, h3 4 _ rfl, h3, h4⟩
def aSp : Oc.Sp := ⟨0, false, true, false, 0, 1, fun _ => 4⟩
set_option maxRecDepth 100000 in
set_option maxHeartbeats 8000000 in
theorem alive16 (w : World) : Calls Try.prog 9 #[] w fun e w' => e = .returned (.bool true) ∧ Below w.heap.size w w' := by
  go_enter Try.func9, Try.ntmps9
  go_wp2_with (first | refine wpList_build1c rfl 24 38 _ rfl 6 #[.int .i64 0, .bool false, .bool false, .bool false, .int .i64 0, .slice none 0 0] #[.int .i64 0, .bool false, .bool true, .bool false, .int .i64 0, .slice (some ⟨w.heap.size + 2, 0, none⟩) 1 1] rfl (by decide) (by decide) Try.underlying24 rfl rfl s_zs_stp ?_)
  have a1 : NumsAt ((((w.alloc (.cells #[.int .i64 3] 3)).alloc (.cells #[.int .i64 0, .int .i64 0] 2)).alloc (.cells #[.int .i64 4] 3)).alloc (.cells #[.int .i64 0, .bool false, .bool true, .bool false, .int .i64 0, .slice (some ⟨w.heap.size + 2, 0, none⟩) 1 1] 38)) (.slice (some ⟨w.heap.size, 0, none⟩) 1 1) 1 (fun _ => 3) := (((one_num w 3).alloc _).alloc _).alloc _
  have a2 : NumsAt ((((w.alloc (.cells #[.int .i64 3] 3)).alloc (.cells #[.int .i64 0, .int .i64 0] 2)).alloc (.cells #[.int .i64 4] 3)).alloc (.cells #[.int .i64 0, .bool false, .bool true, .bool false, .int .i64 0, .slice (some ⟨w.heap.size + 2, 0, none⟩) 1 1] 38)) (.slice (some ⟨w.heap.size + 1, 0, none⟩) 2 2) 2 (or2 0 0) := by
    have := ((two64 (w.alloc (.cells #[.int .i64 3] 3)) 0 0).alloc (.cells #[.int .i64 4] 3)).alloc (.cells #[.int .i64 0, .bool false, .bool true, .bool false, .int .i64 0, .slice (some ⟨w.heap.size + 2, 0, none⟩) 1 1] 38)
    have hz : (w.alloc (.cells #[.int .i64 3] 3)).heap.size = w.heap.size + 1 := by simp
    rw [hz] at this
    exact this
  have a3 : StpAt ((((w.alloc (.cells #[.int .i64 3] 3)).alloc (.cells #[.int .i64 0, .int .i64 0] 2)).alloc (.cells #[.int .i64 4] 3)).alloc (.cells #[.int .i64 0, .bool false, .bool true, .bool false, .int .i64 0, .slice (some ⟨w.heap.size + 2, 0, none⟩) 1 1] 38)) (.slice (some ⟨w.heap.size + 1 + 1 + 1, 0, none⟩) 1 1) 1 (fun _ => aSp) := by
    refine ⟨_, _, fun _ => .slice (some ⟨w.heap.size + 2, 0, none⟩) 1 1, rfl, by decide, fun i hi => ⟨_, _, rfl, ?_⟩, fun i hi => ?_⟩
    · obtain rfl : i = 0 := by omega
      have := (RowAt.new (((w.alloc (.cells #[.int .i64 3] 3)).alloc (.cells #[.int .i64 0, .int .i64 0] 2)).alloc (.cells #[.int .i64 4] 3)) 38 #[.int .i64 0, .bool false, .bool true, .bool false, .int .i64 0, .slice (some ⟨w.heap.size + 2, 0, none⟩) 1 1]).range
      have hz : (((w.alloc (.cells #[.int .i64 3] 3)).alloc (.cells #[.int .i64 0, .int .i64 0] 2)).alloc (.cells #[.int .i64 4] 3)).heap.size = w.heap.size + 1 + 1 + 1 := by simp
      rw [hz] at this
      exact this
    · have := (one_num ((w.alloc (.cells #[.int .i64 3] 3)).alloc (.cells #[.int .i64 0, .int .i64 0] 2)) 4).alloc (.cells #[.int .i64 0, .bool false, .bool true, .bool false, .int .i64 0, .slice (some ⟨w.heap.size + 2, 0, none⟩) 1 1] 38)
      have hz : ((w.alloc (.cells #[.int .i64 3] 3)).alloc (.cells #[.int .i64 0, .int .i64 0] 2)).heap.size = w.heap.size + 2 := by simp
      rw [hz] at this
      exact this
  have hb0 : Below w.heap.size w ((((w.alloc (.cells #[.int .i64 3] 3)).alloc (.cells #[.int .i64 0, .int .i64 0] 2)).alloc (.cells #[.int .i64 4] 3)).alloc (.cells #[.int .i64 0, .bool false, .bool true, .bool false, .int .i64 0, .slice (some ⟨w.heap.size + 2, 0, none⟩) 1 1] 38)) := ((((Below.refl w.heap.size w).alloc (Nat.le_refl _) _).alloc (by simp) _).alloc (by simp; omega) _).alloc (by simp; omega) _
  generalize ((((w.alloc (.cells #[.int .i64 3] 3)).alloc (.cells #[.int .i64 0, .int .i64 0] 2)).alloc (.cells #[.int .i64 4] 3)).alloc (.cells #[.int .i64 0, .bool false, .bool true, .bool false, .int .i64 0, .slice (some ⟨w.heap.size + 2, 0, none⟩) 1 1] 38)) = W0 at *
  refine (office_any 10 _ _ _ 1 _ 2 _ 1 _ W0 a1 a2 a3 (fun c e => by cases e) (by decide) (by decide)).mono ?_
  rintro e W1 ⟨v, u, rfl, hs, hu, hb⟩
  have hbe := hb0.trans (hb.mono hb0.size)
  have e2 : (Oc.seen 10 1 (fun _ => 3) 2 (fun _ => aSp) (Oc.s0 (or2 0 0)) 0).e2 = 0 := by decide
  have tn : (Oc.seen 10 1 (fun _ => 3) 2 (fun _ => aSp) (Oc.s0 (or2 0 0)) 0).tn = 1 := by decide
  have tf : (Oc.seen 10 1 (fun _ => 3) 2 (fun _ => aSp) (Oc.s0 (or2 0 0)) 0).tf 0 = 7 := by decide
  obtain ⟨a, cap, R, rfl, _, hpt⟩ := hs.part
  obtain ⟨b, o, ar, cr, rfl, _, _, c1, _, c3, _, _, hn⟩ := hpt 0 (by decide)
  obtain ⟨au, cu, rfl, _⟩ := hu.len
  rw [tn] at c1 hn
  rw [e2] at c3
  obtain ⟨a4, c4, e4, _, h4⟩ := hn
  cases e4
  obtain ⟨bt, ot, rfl, c5⟩ := h4 0 (by decide)
  rw [tf] at c5
  have c1' : W1.cell? ⟨b, o + 1, none⟩ = some (.slice (some ⟨bt, ot, none⟩) 1 cr) := by simpa using c1
  have c3' : W1.cell? ⟨b, o + 3, none⟩ = some (.int .i64 0) := by simpa using c3
  have c5' : W1.cell? ⟨bt, ot, none⟩ = some (.int .i64 7) := by simpa using c5
  clear hpt hu hb hb0 a1 a2 a3 e2 tn tf c1 c3 c5 h4 hs
  go_wp2
  go_ret
  exact ⟨by simp, hbe⟩
end Go.Proofs.Ytlfghnngbljlhaa
