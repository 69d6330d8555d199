/- What the rows of layer 5 share: the table that the row lists, ints, and slices of pairs that come in. -/
import Derived.Test.YtnbcfolmadkliaaDoorCards
import Derived.Test.YtnbcfolmadkliaaDoorTie
import Derived.Test.YtnbcfolmadkliaaDoorSq
import Derived.Test.YtnbcfolmadkliaaDoorSm
import Derived.WalkKit
import Derived.ProofKit
import Derived.OpenShut
import Derived.ChangeOld
import Derived.Below
import Derived.LaidMore
import Derived.MakeChecks
import Derived.Stop.Joined
import Derived.Stop.LaidErr
import Derived.Lib.LaidTab
import Derived.Deep.DeepHandedRow
import Derived.WideKeyArr2
import Derived.Deep.Slices
import Derived.SizedLaws
namespace Go.Proofs.YtnbcfolmadkliaaDoor
open Go.Deep Go.ChangeShapes Go.WideShapes Go.ChangeAt Go.WideElems Go.RowKit
theorem dr_own : ownKnob Tryd.prog.godebug = none := by kernel_rfl
theorem dr_laidOut : laidOutB Tryd.prog = true := by kernel_rfl
theorem dr_lens : (Rows.laid_tithing_date_lengths : DataW Unit) = Lib.tabData .i64 monTab := by kernel_rfl
theorem dr_lglob : (Tryd.prog.globals[0]?).map (·.type) = some 65 := by kernel_rfl
theorem dr_lcells1 : Tryd.prog.cellsOf 3 = 1 := by kernel_rfl
theorem dr_lcells12 : Tryd.prog.cellsOf 65 = 12 := by kernel_rfl
theorem dr_cells2 : Tryd.prog.cellsOf 38 = 2 := by kernel_rfl
theorem dr_table {W : World} (h : laidMetH Tryd.prog Rows.spanYearsRow.laid W) : LenIs W := by
  rw [MakeChecks.laidMetH_plain _ _ _ (by kernel_rfl)] at h
  have h2 : laidMet Tryd.prog [("tithing/date.lengths", Rows.laid_tithing_date_lengths)] W := h
  rw [dr_lens] at h2
  exact Lib.tabIs_of_head (rest := []) len_glob dr_lglob Tryd.underlying65 Tryd.underlying3 dr_lcells1 dr_lcells12 h2
theorem dwf64 {a : Int} (h : (Lit.int .i64 a).wf = true) : -9223372036854775808 ≤ a ∧ a ≤ 9223372036854775807 := by
  have h : IntKind.i64.min ≤ a ∧ a ≤ IntKind.i64.max := by simpa [Lit.wf] using h
  exact h
theorem cell_lt {w : World} {a : Addr} {v : Value} (h : w.cell? a = some v) : a.block < w.heap.size := by
  rcases Nat.lt_or_ge a.block w.heap.size with q | q
  · exact q
  · unfold World.cell? at h
    rw [Array.getElem?_eq_none q] at h
    simp at h
section
variable {H : Type} {enc : TypeId × Value → H} {P : Program} {t k e : TypeId} {W : World} {base : Nat} {sp : Nat → Bool} {held : Bool}
theorem open_pairs (ht : P.underlying t = some (.slice k)) (hu : P.underlying k = some (.array 2 e)) (he : P.underlying e = some (.int .i64)) (hc1 : P.cellsOf e = 1) (hc2 : P.cellsOf k = 2) {W0 : World} {r : Reach} {b0 : Nat} {v : Value} (hok : Value.okWide P W0 r b0 t v)
    {d : DataW H} {ps : List MemPlace} (hd : DataW.Trod enc P W base sp held t v d ps) :
    ∃ (p : Option Addr) (n c : Nat) (xs : List (Int × Int)), v = .slice p n c ∧ Ra W p n xs ∧ n ≤ 9223372036854775807 := by
  obtain ⟨a, len, cap, rfl⟩ := okWide_slice ht hok
  obtain ⟨fuel, hf⟩ := hd
  rcases open_slice ht hf with ⟨h0, _⟩ | ⟨a', len', cap', m, n, D, Pl, hcs, hb, hl, hm, hmm, _, hx⟩
  · simp [Value.cells] at h0
    obtain ⟨rfl, rfl, rfl⟩ := h0
    exact ⟨none, 0, 0, [], rfl, ⟨rfl, fun q => by omega⟩, by omega⟩
  · simp [Value.cells] at hcs
    obtain ⟨rfl, rfl, rfl⟩ := hcs
    have hlm : len ≤ m := by rw [hmm]; split <;> omega
    have each : ∀ i, i < len → ∃ q : Int × Int, W.cell? (a'.add (i * 2)) = some (iz q.1) ∧ W.cell? ((a'.add (i * 2)).add 1) = some (iz q.2) := by
      intro i hi
      obtain ⟨cs', h1, h2⟩ := hx i (by omega)
      rw [hc2] at h1
      obtain ⟨_, hlen, hcell⟩ := World.cells?_some h1
      obtain ⟨xs, k', hk, hxy, _, hxl, hel⟩ := DataW.trod_array hu h2
      have e0 := hel 0 (by omega)
      have e1 := hel 1 (by omega)
      rw [hc1] at e0 e1
      match xs, hxl, cs', hlen with
      | [y0, y1], _, [v0, v1], _ =>
        simp at e0 e1
        obtain ⟨x, ex, _, _⟩ := DataW.trod_int he e0
        obtain ⟨y, ey, _, _⟩ := DataW.trod_int he e1
        simp at ex ey
        subst ex ey
        exact ⟨(x, y), by have := hcell 0 (by omega); simpa [Addr.add] using this, by have := hcell 1 (by omega); simpa using this⟩
    obtain ⟨q, hq⟩ := choose_lt each
    refine ⟨some a', len, cap, (List.range len).map q, rfl, ⟨by simp, fun hpos => ?_⟩, by unfold maxLen at hm; omega⟩
    obtain ⟨b, off, spot⟩ := a'
    have h00 := (hq 0 hpos).1
    have hs : spot = none := by simpa [Addr.add] using World.cell?_spot h00
    subst hs
    refine ⟨by simp, (fun e => by cases e), fun a ha => ?_⟩
    obtain rfl := Option.some.inj ha
    refine ⟨rfl, by have := cell_lt h00; rw [plain_add] at this; exact this, fun i x hx j u hu => ?_⟩
    have hi : i < len := by have := (List.getElem?_eq_some_iff.1 hx).1; simpa using this
    have hxe : x = q i := by
      rw [List.getElem?_map, List.getElem?_range hi] at hx
      exact (Option.some.inj hx).symm
    subst hxe
    obtain ⟨g0, g1⟩ := hq i hi
    rw [plain_add] at g0
    rw [plain_add, plain_add] at g1
    have hj : j < 2 := by have := (List.getElem?_eq_some_iff.1 hu).1; rwa [spc_len] at this
    rcases (show j = 0 ∨ j = 1 by omega) with rfl | rfl
    · rw [← hu]; exact g0
    · rw [← hu]; exact g1
end
end Go.Proofs.YtnbcfolmadkliaaDoor
