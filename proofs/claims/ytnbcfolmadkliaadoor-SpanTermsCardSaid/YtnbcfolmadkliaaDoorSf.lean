/- Package span: slices.SortFunc at no element. -/
import Derived.Test.YtnbcfolmadkliaaDoorSe
import Derived.Shelf.SlSortCmp.NoneTotal
namespace Go.Proofs.YtnbcfolmadkliaaDoor
open Go.RowKit Go.Shelf Go.Lib Go.Sort
theorem sort_none (p : Option Addr) (cap : Nat) (v : Value) (w : World) : Calls Tryd.prog 49 #[.slice p 0 cap, v] w fun e w' => e = .returned (.tuple #[]) ∧ w' = w :=
  AnyF.slices_SortFunc_none Tryd.sortBd p cap v w
end Go.Proofs.YtnbcfolmadkliaaDoor
