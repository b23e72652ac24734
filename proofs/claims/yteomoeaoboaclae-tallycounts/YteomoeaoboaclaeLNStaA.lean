/-
  TallyStays, for any Index that says what the document's says.
-/
import Derived.Test.YteomoeaoboaclaeLNSta
import Derived.Test.YteomoeaoboaclaeVRdZ
namespace Go.Proofs.Yteomoeaoboaclae
open Go.RowKit PK Vg Tl

theorem ix_write {kind : Nat} (h : 1 ≤ kind ∧ kind ≤ 3) {k t : List UInt8} (hk : Ls k) (ht : Ls t) (hl : t.length ≤ 65536) : ixE (writeL kind k t) (k.length : Int) = ixE t (k.length : Int) ∧ ixAt (writeL kind k t) = ixAt t ∧ ixU (writeL kind k t) (k.length : Int) = ixU t (k.length : Int) ∧ ixD (writeL kind k t) (k.length : Int) = ixD t (k.length : Int) := by
  have c1 := ck_of_ls ht hl
  have c2 := ck_of_ls (writeL_ls kind k t) (by rw [writeL_length]; exact hl)
  have n1 : ¬ ckE t ≠ 0 := fun e => e c1.1
  have n2 : ¬ ckE (writeL kind k t) ≠ 0 := fun e => e c2.1
  have e1 : ixE (writeL kind k t) (k.length : Int) = ixE t (k.length : Int) := by
    unfold ixE
    rw [if_neg n1, if_neg n2, Int.toNat_natCast, allP_write]
  refine ⟨e1, ?_, ?_, ?_⟩
  · unfold ixAt; rw [if_neg n1, if_neg n2]
  · unfold ixU; rw [e1, Int.toNat_natCast, allP_write, alike_write h hk ht]
  · unfold ixD; rw [e1, Int.toNat_natCast, allP_write, alike_write h hk ht]
theorem tallystays_of (TI : ∀ (t : ByteArray) (n : Int) (W : World), Calls Try.prog 9 #[.string t, .int .i64 n] W fun e w' => e = .returned (.tuple #[.agg #[.int .i64 (ixU t.data.toList n : Nat), .int .i64 (ixD t.data.toList n : Nat)], .agg #[.int .i64 (ixE t.data.toList n), .int .i64 (ixAt t.data.toList)]]) ∧ Below W.heap.size W w')
    (HA : ∀ W, Calls Try.prog 18 #[] W fun e w' => e = .returned (.bool true) ∧ Below W.heap.size W w') (k : Int) (key t : ByteArray) (w : World) : Calls Try.prog 5 #[.int .i64 k, .string key, .string t] w fun e w' => e = .returned (.bool true) ∧ Below w.heap.size w w' := by
  have h1 := Pl.size_len key
  have h2 := Pl.size_len t
  rcases lk_cases k key.data.toList t.data.toList with ⟨e1, e2, hk, hn, ha, hb⟩ | e1
  · obtain ⟨n, rfl⟩ : ∃ n : Nat, k = n := ⟨k.toNat, by omega⟩
    have HW := fun W => vwr_ok n (by omega) key t ha.1 ha.2.1 (by omega) hb.1 hb.2.1 (by omega) ha.2.2 hb.2.2.1 W
    by_cases hp : (n : Int) = 4 ∨ 64 < key.size
    · exact tsta_pass n key t _ hp HA HW w
    · have hx := ix_write (kind := n) (by omega) ha.2.2 hb.2.2.1 (by omega)
      refine tsta_run n key t ⟨(writeL n key.data.toList t.data.toList).toArray⟩ (beq_false_of_ne (fun e => hp (.inl e))) (by omega) (ixU t.data.toList key.size) (ixD t.data.toList key.size) (ixE t.data.toList key.size) (ixAt t.data.toList) HA HW (fun W => TI t _ W) (fun W => ?_) w
      have := TI ⟨(writeL n key.data.toList t.data.toList).toArray⟩ (key.size : Nat) W
      rw [h1] at this ⊢
      rw [show (⟨(writeL n key.data.toList t.data.toList).toArray⟩ : ByteArray).data.toList = writeL n key.data.toList t.data.toList from rfl, hx.1, hx.2.1, hx.2.2.1, hx.2.2.2] at this
      exact this
  · exact tsta_bad k key t _ _ _ e1 HA (fun W => vwr_bad k key t e1 W) w
end Go.Proofs.Yteomoeaoboaclae
