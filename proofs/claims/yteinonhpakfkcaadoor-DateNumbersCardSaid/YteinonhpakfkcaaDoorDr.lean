/- What the rows of layer 3 share: the tables that the row's list gives, ints and arrays that come in. -/
import Derived.Test.YteinonhpakfkcaaDoorCards
import Derived.Test.YteinonhpakfkcaaDoorTie
import Derived.Test.YteinonhpakfkcaaDoorDn
import Derived.WalkKit
import Derived.ProofKit
import Derived.OpenShut
import Derived.ShutString
import Derived.ChangeOld
import Derived.Below
import Derived.LaidMore
import Derived.MakeChecks
import Derived.Stop.Joined
import Derived.Stop.LaidErr
import Derived.Lib.LaidTab
import Derived.Deep.DeepHandedRow
import Derived.WideKeyArr2
namespace Go.Proofs.YteinonhpakfkcaaDoor
open Go.ChangeShapes Go.WideShapes Go.ChangeAt Go.WideElems Go.RowKit
theorem dr_own : ownKnob Tryd.prog.godebug = none := by kernel_rfl
theorem dr_laidOut : laidOutB Tryd.prog = true := by kernel_rfl
theorem dr_pow10 : (Rows.laid_internal_strconv_uint64pow10 : DataW Unit) = Lib.tabData .u64 Lib.pow10Tab := by kernel_rfl
theorem dr_glob : Tryd.prog.globalNamed "internal/strconv.uint64pow10" = some 1 := by kernel_rfl
theorem dr_globType : (Tryd.prog.globals[1]?).map (·.type) = some 108 := by kernel_rfl
theorem dr_cells1 : Tryd.prog.cellsOf 98 = 1 := by kernel_rfl
theorem dr_cells20 : Tryd.prog.cellsOf 108 = 20 := by kernel_rfl
theorem dr_lens : (Rows.laid_tithing_date_lengths : DataW Unit) = Lib.tabData .i64 monTab := by kernel_rfl
theorem dr_lglob : (Tryd.prog.globals[0]?).map (·.type) = some 69 := by kernel_rfl
theorem dr_lcells1 : Tryd.prog.cellsOf 3 = 1 := by kernel_rfl
theorem dr_lcells12 : Tryd.prog.cellsOf 69 = 12 := by kernel_rfl
theorem dr_table {W : World} (h : laidMetH Tryd.prog Rows.dateBackRow.laid W) : Tw W := by
  rw [MakeChecks.laidMetH_plain _ _ _ (by kernel_rfl)] at h
  have h2 := laidMet.tail (laidMet.tail h)
  have h3 := laidMet.tail h2
  rw [dr_pow10] at h2
  rw [dr_lens] at h3
  exact ⟨Lib.tabIs_of_head (rest := []) len_glob dr_lglob Tryd.underlying69 Tryd.underlying3 dr_lcells1 dr_lcells12 h3, Lib.tabIs_of_head dr_glob dr_globType Tryd.underlying108 Tryd.underlying98 dr_cells1 dr_cells20 h2⟩
theorem dwf64 {a : Int} (h : (Lit.int .i64 a).wf = true) : -9223372036854775808 ≤ a ∧ a ≤ 9223372036854775807 := by
  have h : IntKind.i64.min ≤ a ∧ a ≤ IntKind.i64.max := by simpa [Lit.wf] using h
  exact h
theorem dwf32 {a : Int} (h : (Lit.int .u32 a).wf = true) : 0 ≤ a ∧ a ≤ 4294967295 := by
  have h : IntKind.u32.min ≤ a ∧ a ≤ IntKind.u32.max := by simpa [Lit.wf] using h
  exact h
theorem dwf16 {a : Int} (h : (Lit.int .u16 a).wf = true) : 0 ≤ a ∧ a ≤ 65535 := by
  have h : IntKind.u16.min ≤ a ∧ a ≤ IntKind.u16.max := by simpa [Lit.wf] using h
  exact h
theorem dwf8 {a : Int} (h : (Lit.int .u8 a).wf = true) : 0 ≤ a ∧ a ≤ 255 := by
  have h : IntKind.u8.min ≤ a ∧ a ≤ IntKind.u8.max := by simpa [Lit.wf] using h
  exact h
section
variable {H : Type} {enc : TypeId × Value → H} {P : Program} {k e : TypeId} {W : World} {base : Nat} {sp : Nat → Bool} {held : Bool} {ik : IntKind}
theorem open_triple3 (hu : P.underlying k = some (.array 3 e)) (he : P.underlying e = some (.int ik)) (hc1 : P.cellsOf e = 1) (hc2 : P.cellsOf k = 3) {W0 : World} {r : Reach} {b0 : Nat} {v : Value} (hok : Value.okWide P W0 r b0 k v)
    {d : DataW H} {ps : List MemPlace} (hd : DataW.Trod enc P W base sp held k v d ps) :
    ∃ a b c : Int, v = .agg #[.int ik a, .int ik b, .int ik c] ∧ ps = [] ∧ (Lit.int ik a).wf = true ∧ (Lit.int ik b).wf = true ∧ (Lit.int ik c).wf = true := by
  simp only [Value.okWide, hu] at hok
  obtain ⟨cs, rfl, hs, _⟩ := hok
  obtain ⟨fuel, hf⟩ := hd
  obtain ⟨xs, m, rfl, hx, hl, hn, hel⟩ := DataW.trod_array hu hf
  have h0 := hel 0 (by omega)
  have h1 := hel 1 (by omega)
  have h2 := hel 2 (by omega)
  rw [hc1] at h0 h1 h2
  rw [hc2] at hs
  obtain ⟨l⟩ := cs
  match xs, hn with
  | [x0, x1, x2], _ =>
    match l, hs with
    | [c0, c1, c2], _ =>
      simp [Value.cells] at h0 h1 h2
      obtain ⟨a, ea, rfl, wa⟩ := DataW.trod_int he h0
      obtain ⟨b, eb, rfl, wb⟩ := DataW.trod_int he h1
      obtain ⟨c, ec, rfl, wc⟩ := DataW.trod_int he h2
      simp at ea eb ec
      subst ea eb ec
      simp only [Prod.mk.injEq] at hx
      exact ⟨a, b, c, rfl, by simpa using hx.2, wa, wb, wc⟩
end
end Go.Proofs.YteinonhpakfkcaaDoor
