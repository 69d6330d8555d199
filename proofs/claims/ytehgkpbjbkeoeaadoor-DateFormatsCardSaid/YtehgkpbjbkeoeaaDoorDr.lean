/- What the rows of layer 3 share: the tables that the row's list gives, ints and arrays that come in. -/
import Derived.Test.YtehgkpbjbkeoeaaDoorCards
import Derived.Test.YtehgkpbjbkeoeaaDoorTie
import Derived.Test.YtehgkpbjbkeoeaaDoorDn
import Derived.WalkKit
import Derived.ProofKit
import Derived.OpenShut
import Derived.ShutString
import Derived.ChangeOld
import Derived.Below
import Derived.LaidMore
import Derived.MakeChecks
import Derived.Stop.Joined
import Derived.Stop.LaidErr
import Derived.Lib.LaidTab
import Derived.Deep.DeepHandedRow
import Derived.WideKeyArr2
namespace Go.Proofs.YtehgkpbjbkeoeaaDoor
open Go.ChangeShapes Go.WideShapes Go.ChangeAt Go.WideElems Go.RowKit
theorem dr_own : ownKnob Tryd.prog.godebug = none := by kernel_rfl
theorem dr_laidOut : laidOutB Tryd.prog = true := by kernel_rfl
theorem dr_pow10 : (Rows.laid_internal_strconv_uint64pow10 : DataW Unit) = Lib.tabData .u64 Lib.pow10Tab := by kernel_rfl
theorem dr_glob : Tryd.prog.globalNamed "internal/strconv.uint64pow10" = some 1 := by kernel_rfl
theorem dr_globType : (Tryd.prog.globals[1]?).map (·.type) = some 98 := by kernel_rfl
theorem dr_cells1 : Tryd.prog.cellsOf 88 = 1 := by kernel_rfl
theorem dr_cells20 : Tryd.prog.cellsOf 98 = 20 := by kernel_rfl
theorem dr_lens : (Rows.laid_tithing_date_lengths : DataW Unit) = Lib.tabData .i64 monTab := by kernel_rfl
theorem dr_lglob : (Tryd.prog.globals[0]?).map (·.type) = some 73 := by kernel_rfl
theorem dr_lcells1 : Tryd.prog.cellsOf 3 = 1 := by kernel_rfl
theorem dr_lcells12 : Tryd.prog.cellsOf 73 = 12 := by kernel_rfl
theorem dr_table {W : World} (h : laidMetH Tryd.prog Rows.dateUndoRow.laid W) : Tw W := by
  rw [MakeChecks.laidMetH_plain _ _ _ (by kernel_rfl)] at h
  have h2 := laidMet.tail (laidMet.tail h)
  have h3 := laidMet.tail h2
  rw [dr_pow10] at h2
  rw [dr_lens] at h3
  exact ⟨Lib.tabIs_of_head (rest := []) len_glob dr_lglob Tryd.underlying73 Tryd.underlying3 dr_lcells1 dr_lcells12 h3, Lib.tabIs_of_head dr_glob dr_globType Tryd.underlying98 Tryd.underlying88 dr_cells1 dr_cells20 h2⟩
theorem dwf64 {a : Int} (h : (Lit.int .i64 a).wf = true) : -9223372036854775808 ≤ a ∧ a ≤ 9223372036854775807 := by
  have h : IntKind.i64.min ≤ a ∧ a ≤ IntKind.i64.max := by simpa [Lit.wf] using h
  exact h
theorem dwf32 {a : Int} (h : (Lit.int .u32 a).wf = true) : 0 ≤ a ∧ a ≤ 4294967295 := by
  have h : IntKind.u32.min ≤ a ∧ a ≤ IntKind.u32.max := by simpa [Lit.wf] using h
  exact h
theorem dwf16 {a : Int} (h : (Lit.int .u16 a).wf = true) : 0 ≤ a ∧ a ≤ 65535 := by
  have h : IntKind.u16.min ≤ a ∧ a ≤ IntKind.u16.max := by simpa [Lit.wf] using h
  exact h
theorem dwf8 {a : Int} (h : (Lit.int .u8 a).wf = true) : 0 ≤ a ∧ a ≤ 255 := by
  have h : IntKind.u8.min ≤ a ∧ a ≤ IntKind.u8.max := by simpa [Lit.wf] using h
  exact h
section
variable {H : Type} {enc : TypeId × Value → H} {P : Program} {k e : TypeId} {W : World} {base : Nat} {sp : Nat → Bool} {held : Bool} {ik : IntKind}
theorem open_pair (hu : P.underlying k = some (.array 2 e)) (he : P.underlying e = some (.int ik)) (hc1 : P.cellsOf e = 1) (hc2 : P.cellsOf k = 2) {W0 : World} {r : Reach} {b0 : Nat} {v : Value} (hok : Value.okWide P W0 r b0 k v)
    {d : DataW H} {ps : List MemPlace} (hd : DataW.Trod enc P W base sp held k v d ps) :
    ∃ a b : Int, v = .agg #[.int ik a, .int ik b] ∧ ps = [] ∧ (Lit.int ik a).wf = true ∧ (Lit.int ik b).wf = true := by
  simp only [Value.okWide, hu] at hok
  obtain ⟨cs, rfl, hs, _⟩ := hok
  obtain ⟨fuel, hf⟩ := hd
  obtain ⟨xs, m, rfl, hx, hl, hn, hel⟩ := DataW.trod_array hu hf
  have h0 := hel 0 (by omega)
  have h1 := hel 1 (by omega)
  rw [hc1] at h0 h1
  rw [hc2] at hs
  obtain ⟨l⟩ := cs
  match xs, hn with
  | [x0, x1], _ =>
    match l, hs with
    | [c0, c1], _ =>
      simp [Value.cells] at h0 h1
      obtain ⟨a, ea, rfl, wa⟩ := DataW.trod_int he h0
      obtain ⟨b, eb, rfl, wb⟩ := DataW.trod_int he h1
      simp at ea eb
      subst ea eb
      simp only [Prod.mk.injEq] at hx
      exact ⟨a, b, rfl, by simpa using hx.2, wa, wb⟩
theorem open_triple3 (hu : P.underlying k = some (.array 3 e)) (he : P.underlying e = some (.int ik)) (hc1 : P.cellsOf e = 1) (hc2 : P.cellsOf k = 3) {W0 : World} {r : Reach} {b0 : Nat} {v : Value} (hok : Value.okWide P W0 r b0 k v)
    {d : DataW H} {ps : List MemPlace} (hd : DataW.Trod enc P W base sp held k v d ps) :
    ∃ a b c : Int, v = .agg #[.int ik a, .int ik b, .int ik c] ∧ ps = [] ∧ (Lit.int ik a).wf = true ∧ (Lit.int ik b).wf = true ∧ (Lit.int ik c).wf = true := by
  simp only [Value.okWide, hu] at hok
  obtain ⟨cs, rfl, hs, _⟩ := hok
  obtain ⟨fuel, hf⟩ := hd
  obtain ⟨xs, m, rfl, hx, hl, hn, hel⟩ := DataW.trod_array hu hf
  have h0 := hel 0 (by omega)
  have h1 := hel 1 (by omega)
  have h2 := hel 2 (by omega)
  rw [hc1] at h0 h1 h2
  rw [hc2] at hs
  obtain ⟨l⟩ := cs
  match xs, hn with
  | [x0, x1, x2], _ =>
    match l, hs with
    | [c0, c1, c2], _ =>
      simp [Value.cells] at h0 h1 h2
      obtain ⟨a, ea, rfl, wa⟩ := DataW.trod_int he h0
      obtain ⟨b, eb, rfl, wb⟩ := DataW.trod_int he h1
      obtain ⟨c, ec, rfl, wc⟩ := DataW.trod_int he h2
      simp at ea eb ec
      subst ea eb ec
      simp only [Prod.mk.injEq] at hx
      exact ⟨a, b, c, rfl, by simpa using hx.2, wa, wb, wc⟩
theorem open_ints8 (hu : P.underlying k = some (.array 8 e)) (he : P.underlying e = some (.int ik)) (hc1 : P.cellsOf e = 1) (hc2 : P.cellsOf k = 8) {W0 : World} {r : Reach} {b0 : Nat} {v : Value} (hok : Value.okWide P W0 r b0 k v)
    {d : DataW H} {ps : List MemPlace} (hd : DataW.Trod enc P W base sp held k v d ps) :
    ∃ x : Int × Int × Int × Int × Int × Int × Int × Int, v = .agg #[.int ik x.1, .int ik x.2.1, .int ik x.2.2.1, .int ik x.2.2.2.1, .int ik x.2.2.2.2.1, .int ik x.2.2.2.2.2.1, .int ik x.2.2.2.2.2.2.1, .int ik x.2.2.2.2.2.2.2] ∧ ps = [] ∧
      ((Lit.int ik x.1).wf = true ∧ (Lit.int ik x.2.1).wf = true ∧ (Lit.int ik x.2.2.1).wf = true ∧ (Lit.int ik x.2.2.2.1).wf = true ∧ (Lit.int ik x.2.2.2.2.1).wf = true ∧ (Lit.int ik x.2.2.2.2.2.1).wf = true ∧ (Lit.int ik x.2.2.2.2.2.2.1).wf = true ∧ (Lit.int ik x.2.2.2.2.2.2.2).wf = true) := by
  simp only [Value.okWide, hu] at hok
  obtain ⟨cs, rfl, hs, _⟩ := hok
  obtain ⟨fuel, hf⟩ := hd
  obtain ⟨xs, m, rfl, hx, hl, hn, hel⟩ := DataW.trod_array hu hf
  have h0 := hel 0 (by omega)
  have h1 := hel 1 (by omega)
  have h2 := hel 2 (by omega)
  have h3 := hel 3 (by omega)
  have h4 := hel 4 (by omega)
  have h5 := hel 5 (by omega)
  have h6 := hel 6 (by omega)
  have h7 := hel 7 (by omega)
  rw [hc1] at h0 h1 h2 h3 h4 h5 h6 h7
  rw [hc2] at hs
  obtain ⟨l⟩ := cs
  match xs, hn with
  | [x0, x1, x2, x3, x4, x5, x6, x7], _ =>
    match l, hs with
    | [c0, c1, c2, c3, c4, c5, c6, c7], _ =>
      simp [Value.cells] at h0 h1 h2 h3 h4 h5 h6 h7
      obtain ⟨a0, e0, rfl, w0⟩ := DataW.trod_int he h0
      obtain ⟨a1, e1, rfl, w1⟩ := DataW.trod_int he h1
      obtain ⟨a2, e2, rfl, w2⟩ := DataW.trod_int he h2
      obtain ⟨a3, e3, rfl, w3⟩ := DataW.trod_int he h3
      obtain ⟨a4, e4, rfl, w4⟩ := DataW.trod_int he h4
      obtain ⟨a5, e5, rfl, w5⟩ := DataW.trod_int he h5
      obtain ⟨a6, e6, rfl, w6⟩ := DataW.trod_int he h6
      obtain ⟨a7, e7, rfl, w7⟩ := DataW.trod_int he h7
      simp at e0 e1 e2 e3 e4 e5 e6 e7
      subst e0 e1 e2 e3 e4 e5 e6 e7
      simp only [Prod.mk.injEq] at hx
      exact ⟨(a0, a1, a2, a3, a4, a5, a6, a7), rfl, by simpa using hx.2, w0, w1, w2, w3, w4, w5, w6, w7⟩
end
end Go.Proofs.YtehgkpbjbkeoeaaDoor
