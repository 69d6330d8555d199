/- What MoneyTexts' row lists besides: the two sentinels of package strconv. -/
import Derived.Test.YtnblmmhpndnjcaaGreatDoorCz
import Derived.Test.YtnblmmhpndnjcaaGreatDoorWn
namespace Go.Proofs.YtnblmmhpndnjcaaGreatDoor
open Go.ChangeShapes Go.WideShapes Go.ChangeAt Go.WideElems Go.RowKit
theorem ly_star : "*" ++ "errors.errorString" = "*errors.errorString" := by decide
theorem ly_row (u : TypeId) (h : Tryz.prog.typeName? 3 u = some "*errors.errorString") : u = 197 :=
  typeName_ptr_named (nm := "errors.errorString") (by rw [ly_star]; kernel_rfl) (by kernel_rfl) (by decide) u (by rw [ly_star]; exact h)
theorem ly_cell {W : World} {n : String} {g : Nat} {tp : TypeId} {p : Value} (hg : Tryz.prog.globalNamed n = some g) (h : W.var? Tryz.prog n = some #[.iface tp p]) : ∃ tq q, W.cell? ⟨g, 0, none⟩ = some (.iface tq q) ∧ g < W.heap.size := by
  have hc : W.cell? ⟨g, 0, none⟩ = some (.iface tp p) := World.var?_cell hg h 0
  exact ⟨tp, p, hc, Lib.lt_of_cell hc⟩
theorem ly_er : Tryz.prog.globalNamed "strconv.ErrRange" = some 7 := by kernel_rfl
theorem ly_es : Tryz.prog.globalNamed "strconv.ErrSyntax" = some 6 := by kernel_rfl
theorem ly_ts {W : World} (hs : W.ShapedOpen Tryz.prog) (h : laidMetH Tryz.prog Rows.moneyTextsRow.laid W) : Ts W := by
  have ht := lz_tm hs h
  rw [MakeChecks.laidMetH_plain _ _ _ (by kernel_rfl)] at h
  have h4 := laidMet.tail (laidMet.tail (laidMet.tail (laidMet.tail h)))
  have h5 := laidMet.tail h4
  obtain ⟨a, s, hv, -⟩ := laid_sentinel h4 ly_er (by kernel_rfl) Tryz.underlying78 ly_row Tryz.underlying197 Tryz.underlying199 rfl rfl Tryz.underlying9 (by kernel_rfl) (by kernel_rfl)
  obtain ⟨b, u, hw, -⟩ := laid_sentinel h5 ly_es (by kernel_rfl) Tryz.underlying78 ly_row Tryz.underlying197 Tryz.underlying199 rfl rfl Tryz.underlying9 (by kernel_rfl) (by kernel_rfl)
  exact ⟨ht, ly_cell ly_es hw, ly_cell ly_er hv⟩
end Go.Proofs.YtnblmmhpndnjcaaGreatDoor
