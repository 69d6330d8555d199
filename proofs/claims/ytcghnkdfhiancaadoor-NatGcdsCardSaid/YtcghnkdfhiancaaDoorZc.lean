/- What the rows of layer 1 share: the table that the row's list gives, the slices of bytes that come in, the start for the witness. -/
import Derived.Test.YtcghnkdfhiancaaDoorCards
import Derived.Test.YtcghnkdfhiancaaDoorTie
import Derived.Test.YtcghnkdfhiancaaDoorTa
import Derived.WalkKit
import Derived.ProofKit
import Derived.OpenShut
import Derived.ShutString
import Derived.ChangeOld
import Derived.Below
import Derived.LaidMore
import Derived.MakeChecks
import Derived.Stop.Joined
import Derived.Stop.LaidErr
import Derived.Lib.LaidTab
import Derived.Deep.DeepHandedRow
namespace Go.Proofs.YtcghnkdfhiancaaDoor
open Go.ChangeShapes Go.WideShapes Go.ChangeAt Go.WideElems Go.RowKit
theorem zc_own : ownKnob Tryd.prog.godebug = none := by kernel_rfl
theorem zc_laidOut : laidOutB Tryd.prog = true := by kernel_rfl
theorem zc_pow10 : (Rows.laid_internal_strconv_uint64pow10 : DataW Unit) = Lib.tabData .u64 Lib.pow10Tab := by kernel_rfl
theorem zc_glob : Tryd.prog.globalNamed "internal/strconv.uint64pow10" = some 2 := by kernel_rfl
theorem zc_globType : (Tryd.prog.globals[2]?).map (·.type) = some 128 := by kernel_rfl
theorem zc_cells1 : Tryd.prog.cellsOf 52 = 1 := by kernel_rfl
theorem zc_cells20 : Tryd.prog.cellsOf 128 = 20 := by kernel_rfl
theorem zc_table {W : World} (h : laidMetH Tryd.prog Rows.natRingRow.laid W) : pow10Is W := by
  rw [MakeChecks.laidMetH_plain _ _ _ (by kernel_rfl)] at h
  have h2 := laidMet.tail (laidMet.tail h)
  rw [zc_pow10] at h2
  exact Lib.tabIs_of_head (rest := []) zc_glob zc_globType Tryd.underlying128 Tryd.underlying52 zc_cells1 zc_cells20 h2
/-- A slice of bytes that came in. -/
theorem BS_of_ints {w : World} {x : Addr} {len cap : Nat} {zs : List Int} (hl : len ≤ cap) (hm : cap ≤ maxLen) (hz : len ≤ zs.length)
    (hcell : ∀ i, i < zs.length → w.cell? (x.add i) = some (.int .u8 (zs.getD i 0))) (hw : ∀ n ∈ zs, (Lit.int .u8 n).wf = true) :
    ∃ l, BS w (.slice (some x) len cap) l := by
  have hlen : ((zs.take len).map fun n => UInt8.ofNat n.toNat).length = len := by rw [List.length_map, List.length_take]; omega
  refine ⟨(zs.take len).map fun n => UInt8.ofNat n.toNat, some x, cap, by rw [hlen], by omega, hm, (fun h => by cases h), fun h0 => ?_⟩
  rw [hlen] at h0
  obtain ⟨g, off, spot⟩ := x
  have hc := hcell 0 (by omega)
  have hspot : spot = none := by simpa [Addr.add] using World.cell?_spot hc
  subst hspot
  refine ⟨g, off, rfl, fun i hi => ?_⟩
  rw [hlen] at hi
  have h1 := hcell i (by omega)
  rw [plain_add] at h1
  rw [h1]
  have hiz : i < zs.length := by omega
  have hmem : zs.getD i 0 ∈ zs := by rw [List.getD_eq_getElem?_getD, List.getElem?_eq_getElem hiz]; exact List.getElem_mem hiz
  have hwf := hw _ hmem
  have hb : 0 ≤ zs.getD i 0 ∧ zs.getD i 0 < 256 := by
    have h : IntKind.u8.min ≤ zs.getD i 0 ∧ zs.getD i 0 ≤ IntKind.u8.max := by simpa [Lit.wf] using hwf
    have hmin : IntKind.u8.min = 0 := by decide
    have hmax : IntKind.u8.max = 255 := by decide
    rw [hmin, hmax] at h
    omega
  simp only [List.getElem_map, List.getElem_take]
  have he : zs.getD i 0 = zs[i] := by rw [List.getD_eq_getElem?_getD, List.getElem?_eq_getElem hiz]; rfl
  rw [he] at hb ⊢
  congr 2
  rw [UInt8.toNat_ofNat']
  omega
theorem BS_nil (w : World) : BS w (.slice none 0 0) [] := ⟨none, 0, rfl, Nat.le_refl _, by unfold maxLen; omega, fun _ => rfl, fun h => absurd h (by simp)⟩
end Go.Proofs.YtcghnkdfhiancaaDoor
