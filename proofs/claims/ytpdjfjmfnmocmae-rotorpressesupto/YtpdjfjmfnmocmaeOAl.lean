/-
  The machine that alive asks: I, II, III, mirror B.
-/
import Derived.Test.YtpdjfjmfnmocmaeORKn
import Derived.Test.YtpdjfjmfnmocmaeOSame
namespace Go.Proofs.Ytpdjfjmfnmocmae
open Go.RowKit PK Vg

def kw1 : List UInt8 := [69, 75, 77, 70, 76, 71, 68, 81, 86, 90, 78, 84, 79, 87, 89, 72, 88, 85, 83, 80, 65, 73, 66, 82, 67, 74]
def kw2 : List UInt8 := [65, 74, 68, 75, 83, 73, 82, 85, 88, 66, 76, 72, 87, 84, 77, 67, 81, 71, 90, 78, 80, 89, 70, 86, 79, 69]
def kw3 : List UInt8 := [66, 68, 70, 72, 74, 76, 67, 80, 82, 84, 88, 86, 90, 78, 89, 69, 73, 87, 71, 65, 75, 77, 85, 83, 81, 79]
def kw4 : List UInt8 := [69, 83, 79, 86, 80, 90, 74, 65, 89, 81, 85, 73, 82, 72, 88, 76, 78, 70, 84, 71, 75, 68, 67, 77, 87, 66]
def kw5 : List UInt8 := [86, 90, 66, 82, 71, 73, 84, 89, 85, 80, 83, 68, 78, 72, 76, 88, 65, 87, 77, 74, 81, 79, 70, 69, 67, 75]
/-- What Known says of a name: what the letters go to, and the notch. -/
def knT : List (List UInt8 × List UInt8 × Nat) := [([73], kw1, 16), ([73, 73], kw2, 4), ([73, 73, 73], kw3, 21), ([73, 86], kw4, 9), ([86], kw5, 25)]
def knI (name : List UInt8) : Option (List UInt8 × List UInt8 × Nat) := knT.find? fun x => x.1 == name
def knW (name : List UInt8) : Nat → Int := match knI name with
  | some x => spl x.2.1
  | none => fun _ => 0
def knN (name : List UInt8) : List Nat := match knI name with
  | some x => [x.2.2]
  | none => []
def knE (name : List UInt8) : Int := match knI name with
  | some _ => 0
  | none => 7
def gAl : Gm := ⟨3, fun r => if r = 0 then spl kw1 else if r = 1 then spl kw2 else spl kw3, fun _ => 1, fun r _ => if r = 0 then 16 else if r = 1 then 4 else 21, 3, fun _ => 0, 3, fun _ => 0, spl miB, Pm.up fun i => i⟩
set_option maxRecDepth 100000 in
theorem al_gE : gE gAl = 0 := by decide +kernel
set_option maxRecDepth 100000 in
theorem al_wr : Om.wr (maOf gAl) (maOf gAl).st [65, 65, 65, 65, 65] = [66, 68, 90, 71, 79] := by decide +kernel
end Go.Proofs.Ytpdjfjmfnmocmae
