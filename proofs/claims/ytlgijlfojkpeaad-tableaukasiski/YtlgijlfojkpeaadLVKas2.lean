/-
  TableauKasiski's loops, walked.
-/
import Derived.Test.YtlgijlfojkpeaadLVKas
namespace Go.Proofs.Ytlgijlfojkpeaad
open Go.RowKit PK Vg

/-- What is written is what stands there. -/
theorem same_cells {W : World} {b : Nat} {T : TypeId} {x y : Value} (h : RowAt W b T #[x, y]) (p : Addr) : ((W.setCell ⟨b, 0, none⟩ x).setCell ⟨b, 1, none⟩ y).cell? p = W.cell? p := by
  apply World.cell?_of_block
  by_cases e : p.block = b
  · rw [e]
    have h1 : RowAt ((W.setCell ⟨b, 0, none⟩ x).setCell ⟨b, 1, none⟩ y) b T #[x, y] := (h.set 0 x).set 1 y
    exact h1.trans h.symm
  · rw [heap_setCell_other _ ⟨b, 1, none⟩ _ _ e, heap_setCell_other _ ⟨b, 0, none⟩ _ _ e]
/-- Among the first m pairs one stands at i, as near as d at most. -/
def Near (f g : Nat → Int) (i d : Int) (m : Nat) : Prop := ∃ j, j < m ∧ f j = i ∧ g j ≤ d
theorem iff_no {P : Prop} (h : ¬ P) : (false = true ↔ P) := ⟨fun e => by simp at e, fun p => (h p).elim⟩
theorem near_step (f g : Nat → Int) (i d : Int) (m : Nat) : Near f g i d (m + 1) ↔ Near f g i d m ∨ (f m = i ∧ g m ≤ d) := by
  constructor
  · rintro ⟨j, hj, h⟩
    by_cases e : j = m
    · subst e; exact .inr h
    · exact .inl ⟨j, by omega, h⟩
  · rintro (⟨j, hj, h⟩ | h)
    · exact ⟨j, by omega, h⟩
    · exact ⟨m, by omega, h⟩
set_option maxRecDepth 100000 in
set_option maxHeartbeats 4000000 in
theorem kas_run (k : Nat) (key t S : ByteArray) (n : Nat) (hk : k ≠ 4) (hkey : 1 ≤ key.size ∧ key.size ≤ 256) (ht : t.size ≤ 300) (hS : S.size = t.size) (hn : 1 ≤ n) (hn2 : n ≤ t.size) (len : Nat) (hlen : len ≤ 4096) (f g : Nat → Int) (w : World) (hW : ∀ W, Calls Try.prog 12 #[.int .i64 (k : Nat), .string key, .string t] W fun e w' => e = .returned (.tuple #[.string S, .agg #[.int .i64 0, .int .i64 0]]) ∧ Below W.heap.size W w')
    (hR : ∀ W, Calls Try.prog 6 #[.string S, .int .i64 (n : Nat)] W fun e w' => ∃ v, e = .returned (.tuple #[v, .agg #[.int .i64 0, .int .i64 0]]) ∧ PairsAt w' v len f g ∧ Below W.heap.size W w')
    (hX : ∀ i m, i + n ≤ t.size → m + n ≤ t.size → i % key.size = m % key.size → t.extract i (i + n) = t.extract m (m + n) → S.extract i (i + n) = S.extract m (m + n))
    (hY : ∀ i m, i < m → m + n ≤ t.size → S.extract i (i + n) = S.extract m (m + n) → Near f g (i : Nat) ((m : Int) - (i : Int)) len) :
    Calls Try.prog 5 #[.int .i64 (k : Nat), .string key, .string t, .int .i64 (n : Nat)] w fun e w' => e = .returned (.bool true) ∧ Below w.heap.size w w' := by
  have HR := (show Hid (∀ W, Calls Try.prog 6 #[.string S, .int .i64 (n : Nat)] W fun e w' => ∃ v, e = .returned (.tuple #[v, .agg #[.int .i64 0, .int .i64 0]]) ∧ PairsAt w' v len f g ∧ Below W.heap.size W w') from hR)
  have HX := (show Hid (∀ i m, i + n ≤ t.size → m + n ≤ t.size → i % key.size = m % key.size → t.extract i (i + n) = t.extract m (m + n) → S.extract i (i + n) = S.extract m (m + n)) from hX)
  have HY := (show Hid (∀ i m, i < m → m + n ≤ t.size → S.extract i (i + n) = S.extract m (m + n) → Near f g (i : Nat) ((m : Int) - (i : Int)) len) from hY)
  have HS : Hid (S.size = t.size) := hS
  clear hR hX hY hS
  have HA := (show Hid (∀ W, Calls Try.prog 11 #[] W fun e w' => e = .returned (.bool true) ∧ Below W.heap.size W w') from valive_any)
  have HW := (show Hid (∀ W, Calls Try.prog 12 #[.int .i64 (k : Nat), .string key, .string t] W fun e w' => e = .returned (.tuple #[.string S, .agg #[.int .i64 0, .int .i64 0]]) ∧ Below W.heap.size W w') from hW)
  clear hW
  go_enter Try.func5, Try.ntmps5
  go_wp2_with fail
  refine (HA.out _).mono ?_
  rintro e W0 ⟨rfl, hb0⟩
  go_wp2_with fail
  refine (HW.out _).mono ?_
  rintro e W1 ⟨rfl, hb1⟩
  have u1 : UAt w (W1.alloc (.cells #[.int .i64 0, .int .i64 0] 25)) W1.heap.size := ⟨RowAt.new _ _ _, (hb0.trans (hb1.mono hb0.size)).alloc (by have := hb0.size; have := hb1.size; omega) _, by have := hb0.size; have := hb1.size; omega⟩
  clear hb0 hb1 HA HW
  have k44 : ((k : Int) == 4) = false := beq_false_of_ne (by omega)
  have h3 : ¬ (300 : Int) < (t.size : Int) := by omega
  have h31 : (t.size : Int) ≤ 300 := by omega
  go_wp2_with fail
  refine (HR.out _).mono ?_
  rintro e W2 ⟨v, rfl, hP, hb2⟩
  have u2 := u1.step hb2
  obtain ⟨c0, c1, f0, f1⟩ := u2.cells
  have u3 := u2.set
  obtain ⟨d0, d1, g0, g1⟩ := u3.cells
  have hnl : (n : Int) ≤ (t.size : Int) := by omega
  have hPb : PairsAt ((W2.setCell ⟨W1.heap.size, 0, none⟩ (.int .i64 0)).setCell ⟨W1.heap.size, 1, none⟩ (.int .i64 0)) v len f g := by
    obtain ⟨av, cv, e, hm, hc⟩ := hP
    refine ⟨av, cv, e, hm, fun c hcl => ?_⟩
    obtain ⟨b, o, e2, x, y⟩ := hc c hcl
    exact ⟨b, o, e2, (same_cells u2.row _).trans x, (same_cells u2.row _).trans y⟩
  clear hb2 u1 u2 hP
  go_wp2_with fail
  obtain ⟨V, hV⟩ : ∃ V, V = (W2.setCell ⟨W1.heap.size, 0, none⟩ (.int .i64 0)).setCell ⟨W1.heap.size, 1, none⟩ (.int .i64 0) := ⟨_, rfl⟩
  rw [← hV] at u3 hPb ⊢
  have HU := (show Hid (UAt w V W1.heap.size) from u3)
  obtain ⟨av, cv, rfl, hvm, hvc⟩ := hPb
  have HVC := (show Hid (∀ c, c < len → ∃ b o, av = some ⟨b, o, none⟩ ∧ V.cell? ⟨b, o + c * 2, none⟩ = some (.int .i64 (f c)) ∧ V.cell? ⟨b, o + c * 2 + 1, none⟩ = some (.int .i64 (g c))) from hvc)
  clear hvc hV u3 c0 c1 f0 f1 d0 d1 g0 g1
  go_loopw [12] (fun i W => ∃ a : Nat, a + n ≤ t.size + 1 ∧ i = .int .i64 a ∧ Below V.heap.size V W) (fun i _ => ((t.size : Int) + 1 - intOf i).toNat)
  case atStart => exact ⟨0, by omega, rfl, Below.refl _ _⟩
  case round =>
    obtain ⟨a, ha, rfl, hb⟩ := hrel
    by_cases hlt : a + n ≤ t.size
    · have hltI : (a : Int) + (n : Int) ≤ (t.size : Int) := by omega
      obtain ⟨X, hX⟩ : ∃ X, X = wr := ⟨_, rfl⟩
      rw [← hX] at hb ⊢
      clear hX
      go_wp2_with fail
      go_loopw [13] (fun i W => ∃ m : Nat, a < m ∧ m ≤ t.size + key.size ∧ i = .int .i64 m ∧ Hid (a % key.size = m % key.size) ∧ Below V.heap.size V W) (fun i _ => ((t.size : Int) + 1 + 256 - intOf i).toNat)
      case atStart => exact ⟨a + key.size, by omega, by omega, by go_num, by rw [Hid, Nat.add_mod_right], hb⟩
      case round =>
        clear hb
        obtain ⟨m, ham, hmt, rfl, HM, hb⟩ := hrel
        by_cases hlm : m + n ≤ t.size
        · have hlmI : (m : Int) + (n : Int) ≤ (t.size : Int) := by omega
          have hsI : (a : Int) + (n : Int) ≤ (S.size : Int) := by rw [HS.out]; exact hltI
          have hsmI : (m : Int) + (n : Int) ≤ (S.size : Int) := by rw [HS.out]; exact hlmI
          have hsN : a + n ≤ S.size := by rw [HS.out]; exact hlt
          have hsmN : m + n ≤ S.size := by rw [HS.out]; exact hlm
          by_cases hE : t.extract a (a + n) = t.extract m (m + n)
          · have hF := HX.out a m hlt hlm HM.out hE
            have HN := (show Hid (Near f g (a : Nat) ((m : Int) - (a : Int)) len) from HY.out a m ham hlm hF)
            have e1 := ba_eq hE
            have e2 := ba_eq hF
            clear hE hF
            go_wp2_with fail
            go_quiet (fail)
            go_wp2_with fail
            go_quiet (fail)
            go_wp2_with fail
            go_loopw [105, 14] (fun j fd W => ∃ (q : Nat) (b : Bool), q ≤ len ∧ j = .int .i64 q ∧ fd = .bool b ∧ Hid (b = true ↔ Near f g (a : Nat) ((m : Int) - (a : Int)) q) ∧ Below V.heap.size V W) (fun j _ _ => ((len : Int) - intOf j).toNat)
            case atStart => exact ⟨0, false, by omega, rfl, rfl, ⟨fun h => by simp at h, fun ⟨j, hj, _⟩ => by omega⟩, ⟨hb.os, hb.tape, hb.output, hb.size, hb.block⟩⟩
            case round =>
              clear hb
              obtain ⟨q, b, hq, rfl, rfl, HI, hb⟩ := hrel
              by_cases hql : q < len
              · have hqlI : (q : Int) < (len : Int) := by omega
                obtain ⟨bb, o, e, x0, y0⟩ := HVC.out q hql
                subst e
                have x1 := (hb.cell (p := ⟨bb, o + q * 2, none⟩) (cell_block x0)).trans x0
                have y1 := (hb.cell (p := ⟨bb, o + q * 2 + 1, none⟩) (cell_block y0)).trans y0
                have HST := (show Hid (Near f g (a : Nat) ((m : Int) - (a : Int)) (q + 1) ↔ Near f g (a : Nat) ((m : Int) - (a : Int)) q ∨ (f q = (a : Nat) ∧ g q ≤ (m : Int) - (a : Int))) from near_step _ _ _ _ _)
                generalize f q = x at *
                generalize g q = y at *
                have hbA := hb.alloc hb.size (.cells #[.int .i64 x, .int .i64 y] 38)
                clear x0 y0
                cases b with
                | true =>
                  go_wp2
                  go_roundw
                  case rel => exact ⟨q + 1, true, by omega, by go_num, rfl, ⟨fun _ => HST.out.2 (.inl (HI.out.1 rfl)), fun _ => rfl⟩, hbA⟩
                  case measure => simp [intOf] <;> omega
                | false =>
                  have HNO := (show Hid (¬ Near f g (a : Nat) ((m : Int) - (a : Int)) q) from fun h => by have := HI.out.2 h; cases this)
                  by_cases hx : x = (a : Int)
                  · subst hx
                    by_cases hy : y ≤ (m : Int) - (a : Int)
                    · have HT := (show Hid ((a : Int) = (a : Nat) ∧ y ≤ (m : Int) - (a : Int)) from ⟨rfl, hy⟩)
                      go_wp2
                      go_roundw
                      case rel => exact ⟨q + 1, true, by omega, by go_num, rfl, ⟨fun _ => HST.out.2 (.inr HT.out), fun _ => rfl⟩, hbA⟩
                      case measure => simp [intOf] <;> omega
                    · have HT := (show Hid (¬ ((a : Int) = (a : Nat) ∧ y ≤ (m : Int) - (a : Int))) from fun h => hy h.2)
                      go_wp2
                      go_roundw
                      case rel => exact ⟨q + 1, false, by omega, by go_num, rfl, iff_no (fun h => (HST.out.1 h).elim HNO.out HT.out), hbA⟩
                      case measure => simp [intOf] <;> omega
                  · have hx2 : (x == (a : Int)) = false := beq_false_of_ne hx
                    have HT := (show Hid (¬ (x = (a : Nat) ∧ y ≤ (m : Int) - (a : Int))) from fun h => hx h.1)
                    go_wp2
                    go_roundw
                    case rel => exact ⟨q + 1, false, by omega, by go_num, rfl, iff_no (fun h => (HST.out.1 h).elim HNO.out HT.out), hbA⟩
                    case measure => simp [intOf] <;> omega
              · obtain rfl : q = len := by omega
                obtain rfl : b = true := HI.out.2 HN.out
                go_wp2
                go_roundw
                case rel => exact ⟨m + key.size, by omega, by omega, by go_num, by rw [Hid, Nat.add_mod_right]; exact HM.out, hb⟩
                case measure => simp [intOf] <;> omega
          · have e1 := ba_ne hE
            clear hE
            go_wp2_with fail
            go_quiet (fail)
            go_wp2
            go_roundw
            case rel => exact ⟨m + key.size, by omega, by omega, by go_num, by rw [Hid, Nat.add_mod_right]; exact HM.out, ⟨hb.os, hb.tape, hb.output, hb.size, hb.block⟩⟩
            case measure => simp [intOf] <;> omega
        · have hlmI : ¬ (m : Int) + (n : Int) ≤ (t.size : Int) := by omega
          go_wp2
          go_roundw
          case rel => exact ⟨a + 1, by omega, by go_num, hb⟩
          case measure => simp [intOf] <;> omega
    · have hltI : ¬ (a : Int) + (n : Int) ≤ (t.size : Int) := by omega
      go_wp2
      go_ret
      exact ⟨rfl, HU.out.below.trans (hb.mono HU.out.below.size)⟩
end Go.Proofs.Ytlgijlfojkpeaad
