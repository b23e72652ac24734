/-
  alive (chapter 12).
-/
import Derived.Test.YtkangeheamknoaaPiC
namespace Go.Proofs.Ytkangeheamknoaa
open Go.RowKit PK Dm

/-- The drum of one wheel and one bar. -/
def drA : Dr := ⟨1, fun _ => 2, fun _ c => decide (c = 0), 1, fun _ j => if j = 0 then 1 else 0⟩
theorem built_two : Try.prog.built 44 [(0, .int .i64 1), (1, .int .i64 0)] = some #[.int .i64 1, .int .i64 0] := by kernel_rfl
theorem built_drum (x y : Option Addr) : Try.prog.built 25 [(0, .slice x 1 1), (1, .slice y 1 1)] = some #[.slice x 1 1, .slice y 1 1] := by kernel_rfl
theorem wpList_buildA {P : Program} {ops : Array Oper} {rest : List Oper} {op : Oper} {a : Act} {w : World} {Q : Exit → Act → World → Prop} (hgd : op.guard = none) (t : TypeId) (xs : List (Nat × Operand)) (ho : op.op = .build t xs.toArray) (vs : List (Nat × Value)) (hv : xs.map (fun x => (x.1, a.eval x.2)) = vs)
    (cells : Array Value) (hb : P.built t vs = some cells) (h : wpList P ops Q rest (a.put op.dst (.agg cells)) w) : wpList P ops Q (op :: rest) a w :=
  wpList_plain hgd fun _ hK => by
    unfold Oper.wp execOp
    have hm : xs.toArray.map (fun (i, x) => (i, a.eval x)) = vs.toArray := by rw [← hv]; simp
    simp only [ho, Sem.run_bind, hm, run_build w t vs.toArray cells hb, Result.andThen_ok]
    exact hK _ _ h
set_option maxRecDepth 100000 in
set_option maxHeartbeats 4000000 in
theorem alive12 (P3 : PDWt 11) (w : World) : Calls Try.prog 15 #[] w fun e w' => e = .returned (.bool true) ∧ Below w.heap.size w w' := by
  have H7 := (show Hid _ from P3)
  clear P3
  go_enter Try.func15, Try.ntmps15
  go_wp2_with (first | refine wpList_buildA rfl 44 [(0, .const (.int .i64 1)), (1, .const (.int .i64 0))] rfl [(0, .int .i64 1), (1, .int .i64 0)] rfl _ built_two ?_ | refine wpList_buildA rfl 25 [(0, .tmp 5), (1, .tmp 7)] rfl [(0, .slice _ 1 1), (1, .slice _ 1 1)] rfl _ (built_drum _ _) ?_)
  have hr1 : RowAt (((w.alloc (.cells #[.bool true, .bool false] 4)).alloc (.cells #[.slice (some ⟨w.heap.size, 0, none⟩) 2 2] 42)).alloc (.cells #[.int .i64 1, .int .i64 0] 44)) w.heap.size 4 #[.bool true, .bool false] := ((RowAt.new w _ _).alloc _).alloc _
  have hr2 : RowAt (((w.alloc (.cells #[.bool true, .bool false] 4)).alloc (.cells #[.slice (some ⟨w.heap.size, 0, none⟩) 2 2] 42)).alloc (.cells #[.int .i64 1, .int .i64 0] 44)) (w.heap.size + 1) 42 #[.slice (some ⟨w.heap.size, 0, none⟩) 2 2] := by
    have h := RowAt.new (w.alloc (.cells #[.bool true, .bool false] 4)) 42 #[.slice (some ⟨w.heap.size, 0, none⟩) 2 2]
    rw [World.size_alloc] at h
    exact h.alloc _
  have hr3 : RowAt (((w.alloc (.cells #[.bool true, .bool false] 4)).alloc (.cells #[.slice (some ⟨w.heap.size, 0, none⟩) 2 2] 42)).alloc (.cells #[.int .i64 1, .int .i64 0] 44)) (w.heap.size + 1 + 1) 44 #[.int .i64 1, .int .i64 0] := by
    have h := RowAt.new ((w.alloc (.cells #[.bool true, .bool false] 4)).alloc (.cells #[.slice (some ⟨w.heap.size, 0, none⟩) 2 2] 42)) 44 #[.int .i64 1, .int .i64 0]
    rw [World.size_alloc, World.size_alloc] at h
    exact h
  have hbe := ((((Below.refl w.heap.size w).alloc (Nat.le_refl _) (.cells #[.bool true, .bool false] 4)).alloc (by simp) (.cells #[.slice (some ⟨w.heap.size, 0, none⟩) 2 2] 42)).alloc (by simp; omega) (.cells #[.int .i64 1, .int .i64 0] 44))
  generalize ((w.alloc (.cells #[.bool true, .bool false] 4)).alloc (.cells #[.slice (some ⟨w.heap.size, 0, none⟩) 2 2] 42)).alloc (.cells #[.int .i64 1, .int .i64 0] 44) = W0 at *
  have hd : DrAt W0 (.agg #[.slice (some ⟨w.heap.size + 1, 0, none⟩) 1 1, .slice (some ⟨w.heap.size + 1 + 1, 0, none⟩) 1 1]) drA := by
    refine ⟨_, _, rfl, ⟨some ⟨w.heap.size + 1, 0, none⟩, 1, fun _ => .slice (some ⟨w.heap.size, 0, none⟩) 2 2, rfl, by decide, fun r hr => ?_, fun r hr => ⟨some ⟨w.heap.size, 0, none⟩, 2, rfl, (by show 2 ≤ maxLen; decide), fun c hc => ⟨_, _, rfl, ?_⟩⟩⟩, ⟨some ⟨w.heap.size + 1 + 1, 0, none⟩, 1, rfl, by decide, fun r hr => ⟨_, _, rfl, ?_⟩⟩⟩
    · have : r = 0 := by have : r < 1 := hr; omega
      subst this
      exact ⟨_, _, rfl, hr2.cell rfl⟩
    · have hc2 : c < 2 := hc
      rcases (by omega : c = 0 ∨ c = 1) with rfl | rfl
      · exact hr1.cell rfl
      · exact hr1.cell rfl
    · have : r = 0 := by have : r < 1 := hr; omega
      subst this
      exact hr3.range
  refine (H7.out _ drA _ W0 hd).mono ?_
  rintro e W1 ⟨rfl, hb⟩
  have e1 : dwE drA (⟨#[65, 65]⟩ : ByteArray).data.toList = 0 := by decide
  have e2 : dwAt drA (⟨#[65, 65]⟩ : ByteArray).data.toList = 0 := by decide
  have e3 : dwS drA (⟨#[65, 65]⟩ : ByteArray).data.toList = [65, 90] := by decide
  rw [e1, e2, e3]
  have HBE := (show Hid (Below w.heap.size w W1) from hbe.trans (hb.mono hbe.size))
  have hsz := hb.size
  clear hb hbe hd hr1 hr2 hr3 e1 e2 e3 H7
  go_wp2
  go_ret
  exact ⟨by simp, HBE.out.alloc HBE.out.size _⟩
end Go.Proofs.Ytkangeheamknoaa
