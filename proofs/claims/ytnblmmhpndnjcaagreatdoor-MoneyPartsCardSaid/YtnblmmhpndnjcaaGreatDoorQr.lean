/- Texts of rational numbers: package ratio's Text, and the reference model's. -/
import Derived.Test.YtnblmmhpndnjcaaGreatDoorQq
namespace Go.Proofs.YtnblmmhpndnjcaaGreatDoor
open Go.RowKit
/-- The text of a number by its parts. -/
def rtx (t : T3) : List UInt8 := (if t.1 then [45] else []) ++ (Lib.decDigits (bv t.2.1) ++ (if t.2.2 = [1] then [] else 47 :: Lib.decDigits (bv t.2.2)))
theorem str_eq {a b : ByteArray} (h : a.data.toList = b.data.toList) : Ending.returned (.string a) = .returned (.string b) := by
  have : a = b := by
    apply ByteArray.ext
    exact Array.toList_inj.1 h
  rw [this]
end Go.Proofs.YtnblmmhpndnjcaaGreatDoor
