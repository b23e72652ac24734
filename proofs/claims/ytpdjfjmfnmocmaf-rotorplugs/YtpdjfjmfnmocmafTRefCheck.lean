/-
  The contract of the document's own Check: it answers as the program's.
-/
import Derived.Test.YtpdjfjmfnmocmafTCheck
import Derived.Lib.ConvBytes
namespace Go.Proofs.Ytpdjfjmfnmocmaf
open Go.RowKit

theorem below_bytes {B : Nat} (w : World) (hB : B ≤ w.heap.size) (e : TypeId) (s : ByteArray) : Below B w (Lib.bytesWorld w e s) := by
  refine ⟨?_, ?_, ?_, by rw [Lib.bytesWorld_size]; omega, fun k hk => Lib.bytesWorld_at_old w e s k (by omega)⟩
  all_goals
    unfold Lib.bytesWorld World.freeze
    split <;> rfl
theorem bytes_cell (w : World) (e : TypeId) (s : ByteArray) (k : Nat) (hk : k < s.size) : (Lib.bytesWorld w e s).cell? ⟨w.heap.size, k, none⟩ = some (.int .u8 s[k].toNat) := by
  rw [Lib.bytesWorld_cell w e s k hk]
  have hk' : k < s.data.toList.length := by have := Pl.size_len s; omega
  simp only [List.getD, List.getElem?_eq_getElem hk']
  rfl

end Go.Proofs.Ytpdjfjmfnmocmaf
