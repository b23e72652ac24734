/-
  TallyFar and TallyCounts, for tally's functions that say what the document's say.
-/
import Derived.Test.YteomoeaoboaclaeLNFar
import Derived.Test.YteomoeaoboaclaeLNCnt
namespace Go.Proofs.Yteomoeaoboaclae
open Go.RowKit PK Vg Tl Fl

theorem tallyfar_of (TS : ∀ (t : ByteArray) (F : Nat → Nat) (W : World), Calls Try.prog 16 #[.string t, .agg (flts F)] W fun e w' => e = .returned (.tuple #[.int .i64 (shR t.data.toList F : Nat), .agg #[.int .i64 (wgE t.data.toList F), .int .i64 (wgAt t.data.toList)]]) ∧ Below W.heap.size W w')
    (TC : ∀ (t : ByteArray) (F : Nat → Nat) (W : World), Calls Try.prog 13 #[.string t, .agg (flts F)] W fun e w' => e = .returned (.tuple #[.float .f64 (chiS t.data.toList F), .agg #[.int .i64 (wgE t.data.toList F), .int .i64 (wgAt t.data.toList)]]) ∧ Below W.heap.size W w')
    (t : ByteArray) (F : Nat → Nat) (w : World) : Calls Try.prog 4 #[.string t, .agg (flts F)] w fun e w' => e = .returned (.bool true) ∧ Below w.heap.size w w' :=
  tfar_run t F _ _ _ _ (fun W => TC t F W) (fun W => rchi_any t F W) (fun W => TS t F W) (fun W => rsh_any t F W) w
theorem tallycounts_of (TK : ∀ (t : ByteArray) (W : World), Calls Try.prog 7 #[.string t] W fun e w' => e = .returned (.tuple #[.agg (ints 26 (ctS t.data.toList)), .agg #[.int .i64 (ckE t.data.toList), .int .i64 (ckAt t.data.toList)]]) ∧ Below W.heap.size W w')
    (TI : ∀ (t : ByteArray) (n : Int) (W : World), Calls Try.prog 9 #[.string t, .int .i64 n] W fun e w' => e = .returned (.tuple #[.agg #[.int .i64 (ixU t.data.toList n : Nat), .int .i64 (ixD t.data.toList n : Nat)], .agg #[.int .i64 (ixE t.data.toList n), .int .i64 (ixAt t.data.toList)]]) ∧ Below W.heap.size W w')
    (TP : ∀ (t : ByteArray) (n : Int) (W : World), Calls Try.prog 11 #[.string t, .int .i64 n] W fun e w' => e = .returned (.tuple #[.int .i64 (peN t.data.toList n : Nat), .agg #[.int .i64 (peE t.data.toList n), .int .i64 (ixAt t.data.toList)]]) ∧ Below W.heap.size W w')
    (t : ByteArray) (cl ms : Int) (w : World) : Calls Try.prog 3 #[.string t, .int .i64 cl, .int .i64 ms] w fun e w' => e = .returned (.bool true) ∧ Below w.heap.size w w' :=
  tcnt_run t cl ms _ _ _ _ _ _ _ _ _ _ (fun W => TK t W) (fun W => rct_any t W) (fun W => TI t cl W) (fun W => rix_any t cl W) (fun W => TP t ms W) (fun W => rpe_any t ms W) w
end Go.Proofs.Yteomoeaoboaclae
