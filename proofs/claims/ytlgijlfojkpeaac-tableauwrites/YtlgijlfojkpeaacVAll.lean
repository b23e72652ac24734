/-
  What Write, Read and Key answer, whatever they are asked.
-/
import Derived.Test.YtlgijlfojkpeaacVKy
namespace Go.Proofs.Ytlgijlfojkpeaac
open Go.RowKit PK Vg

/-- What Write and Read tell. -/
def wrS (k : Int) (key t : List UInt8) : List UInt8 := if lkE k key t = 0 then writeL k.toNat key t else []
def rdS (k : Int) (key t : List UInt8) : List UInt8 := if lkE k key t = 0 then readL k.toNat key t else []
theorem vwrite_any (k : Int) (key t : ByteArray) (w : World) : Calls Try.prog 25 #[.int .i64 k, .string key, .string t] w fun e w' => e = .returned (.tuple #[.string ⟨(wrS k key.data.toList t.data.toList).toArray⟩, .agg #[.int .i64 (lkE k key.data.toList t.data.toList), .int .i64 (lkAt k key.data.toList t.data.toList)]]) ∧ Below w.heap.size w w' := by
  have h1 := Pl.size_len key
  have h2 := Pl.size_len t
  unfold wrS
  rcases lk_cases k key.data.toList t.data.toList with ⟨e1, e2, hk, hn, ha, hb⟩ | e1
  · rw [if_pos e1, e1, e2]
    obtain ⟨n, rfl⟩ : ∃ n : Nat, k = n := ⟨k.toNat, by omega⟩
    rw [Int.toNat_natCast]
    exact vwr_ok n (by omega) key t ha.1 ha.2.1 (by omega) hb.1 hb.2.1 (by omega) ha.2.2 hb.2.2.1 w
  · rw [if_neg (by simpa using e1)]
    exact vwr_bad k key t e1 w
theorem vread_any (k : Int) (key t : ByteArray) (w : World) : Calls Try.prog 27 #[.int .i64 k, .string key, .string t] w fun e w' => e = .returned (.tuple #[.string ⟨(rdS k key.data.toList t.data.toList).toArray⟩, .agg #[.int .i64 (lkE k key.data.toList t.data.toList), .int .i64 (lkAt k key.data.toList t.data.toList)]]) ∧ Below w.heap.size w w' := by
  have h1 := Pl.size_len key
  have h2 := Pl.size_len t
  unfold rdS
  rcases lk_cases k key.data.toList t.data.toList with ⟨e1, e2, hk, hn, ha, hb⟩ | e1
  · rw [if_pos e1, e1, e2]
    obtain ⟨n, rfl⟩ : ∃ n : Nat, k = n := ⟨k.toNat, by omega⟩
    rw [Int.toNat_natCast]
    exact vrd_ok n (by omega) key t ha.1 ha.2.1 (by omega) hb.1 hb.2.1 (by omega) ha.2.2 hb.2.2.1 w
  · rw [if_neg (by simpa using e1)]
    exact vrd_bad k key t e1 w
/-- What is wrong where a key is asked for, and the key. -/
def kyE (k n : Int) (t s : List UInt8) : Int := if k = 4 then 1 else if n < 1 ∨ 256 < n then 5 else if k < 1 ∨ 4 < k then 1 else if ckE t ≠ 0 then ckE t else if ckE s ≠ 0 then ckE s else if ¬ t.length = s.length ∨ (t.length : Int) < n then 8 else if writeL k.toNat (kyL k.toNat t s n.toNat) t = s then 0 else 6
def kyAt (k n : Int) (t s : List UInt8) : Int := if k = 4 then 0 else if n < 1 ∨ 256 < n then 0 else if k < 1 ∨ 4 < k then 0 else if ckE t ≠ 0 then ckAt t else if ckE s ≠ 0 then ckAt s else 0
def kyS (k n : Int) (t s : List UInt8) : List UInt8 := if kyE k n t s = 0 then kyL k.toNat t s n.toNat else []
theorem vkey_any (k n : Int) (t s : ByteArray) (w : World) : Calls Try.prog 29 #[.int .i64 k, .int .i64 n, .string t, .string s] w fun e w' => e = .returned (.tuple #[.string ⟨(kyS k n t.data.toList s.data.toList).toArray⟩, .agg #[.int .i64 (kyE k n t.data.toList s.data.toList), .int .i64 (kyAt k n t.data.toList s.data.toList)]]) ∧ Below w.heap.size w w' := by
  have h1 := Pl.size_len t
  have h2 := Pl.size_len s
  unfold kyS kyE kyAt
  by_cases a1 : k = 4
  · simp only [if_pos a1, if_neg (show ¬ (1 : Int) = 0 by decide)]
    subst a1
    exact key_auto n t s w
  simp only [if_neg a1]
  by_cases a2 : n < 1 ∨ 256 < n
  · simp only [if_pos a2, if_neg (show ¬ (5 : Int) = 0 by decide)]
    exact key_long k n a1 a2 t s w
  simp only [if_neg a2]
  by_cases a3 : k < 1 ∨ 4 < k
  · simp only [if_pos a3, if_neg (show ¬ (1 : Int) = 0 by decide)]
    exact key_kind k n a3 (by omega) t s w
  simp only [if_neg a3]
  obtain ⟨K, rfl⟩ : ∃ K : Nat, k = K := ⟨k.toNat, by omega⟩
  obtain ⟨N, rfl⟩ : ∃ N : Nat, n = N := ⟨n.toNat, by omega⟩
  simp only [Int.toNat_natCast]
  rcases ck_cases t.data.toList with ⟨b1, b2, b3, b4⟩ | b1
  · have b0 : ¬ (ckE t.data.toList ≠ 0) := fun h => h b1
    simp only [if_neg b0]
    rcases ck_cases s.data.toList with ⟨c1, c2, c3, c4⟩ | c1
    · have c0 : ¬ (ckE s.data.toList ≠ 0) := fun h => h c1
      simp only [if_neg c0]
      by_cases d1 : ¬ t.data.toList.length = s.data.toList.length ∨ (t.data.toList.length : Int) < (N : Int)
      · simp only [if_pos d1, if_neg (show ¬ (8 : Int) = 0 by decide)]
        exact key_fit K (by omega) N (by omega) t s w ⟨b1, b2⟩ ⟨c1, c2⟩ (by omega)
      · simp only [if_neg d1]
        have hr := key_run K (by omega) N (by omega) t s w ⟨b1, b2⟩ ⟨c1, c2⟩ (ls_of b4) (ls_of c4) (by omega) (by omega) (by omega)
        by_cases e1 : writeL K (kyL K t.data.toList s.data.toList N) t.data.toList = s.data.toList
        · rw [if_pos e1, if_pos e1] at hr
          simp only [if_pos e1]
          rw [if_pos trivial]
          exact hr
        · rw [if_neg e1, if_neg e1] at hr
          simp only [if_neg e1]
          rw [if_neg (by decide)]
          exact hr
    · have c0 : ckE s.data.toList ≠ 0 := by simpa using c1
      simp only [if_pos c0]
      rw [if_neg c0]
      exact key_told K (by omega) N (by omega) t s w ⟨b1, b2⟩ c1
  · have b0 : ckE t.data.toList ≠ 0 := by simpa using b1
    simp only [if_pos b0]
    rw [if_neg b0]
    exact key_text K (by omega) N (by omega) t s w b1
end Go.Proofs.Ytlgijlfojkpeaac
