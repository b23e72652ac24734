/-
  The four statements' functions, called with anything.
-/
import Derived.Test.YteomoeaoboaclaeLNFarB
import Derived.Test.YteomoeaoboaclaeLNStaA
import Derived.Test.YteomoeaoboaclaeLNMovA
import Derived.Test.YteomoeaoboaclaeNAliv
import Derived.Test.YteomoeaoboaclaeTIx
import Derived.Test.YteomoeaoboaclaeTPe
import Derived.Test.YteomoeaoboaclaeTCt
import Derived.Test.YteomoeaoboaclaeTChi
import Derived.Test.YteomoeaoboaclaeTSh
namespace Go.Proofs.Yteomoeaoboaclae
open Go.RowKit PK Vg Tl Fl

theorem tallyfar_any (t : ByteArray) (F : Nat → Nat) (w : World) : Calls Try.prog 4 #[.string t, .agg (flts F)] w fun e w' => e = .returned (.bool true) ∧ Below w.heap.size w w' := tallyfar_of tsh_any tchi_any t F w
theorem tallycounts_any (t : ByteArray) (cl ms : Int) (w : World) : Calls Try.prog 3 #[.string t, .int .i64 cl, .int .i64 ms] w fun e w' => e = .returned (.bool true) ∧ Below w.heap.size w w' := tallycounts_of tct_any tix_any tpe_any t cl ms w
theorem tallystays_any (k : Int) (key t : ByteArray) (w : World) : Calls Try.prog 5 #[.int .i64 k, .string key, .string t] w fun e w' => e = .returned (.bool true) ∧ Below w.heap.size w w' := tallystays_of tix_any (talive_run fun W => tct_any _ W) k key t w
theorem tallymoved_any (t : ByteArray) (F : Nat → Nat) (b : Int) (w : World) : Calls Try.prog 6 #[.string t, .agg (flts F), .int .i64 b] w fun e w' => e = .returned (.bool true) ∧ Below w.heap.size w w' := tallymoved_of tsh_any tchi_any (talive_run fun W => tct_any _ W) t F b w
end Go.Proofs.Yteomoeaoboaclae
