/- Contracts of the reference implementation's functions with named results. -/
import Derived.Test.YtcghnkdfhiancaaDoorUe
namespace Go.Proofs.YtcghnkdfhiancaaDoor
open Go.RowKit
theorem C_of {n : Int} {l : List UInt8} (hl : nb n.toNat = l) (h1 : -9223372036854775808 ≤ n) (h2 : n ≤ 9223372036854775807) : Ans 27 #[.int .i64 n] (S l) := fun w => by
  rcases Int.lt_or_le n 0 with h | h
  · have : l = [] := by rw [← hl, show n.toNat = 0 from by omega, nb_zero]
    subst this
    exact (of_neg n w h h1).mono fun _ _ ⟨he, hC⟩ => ⟨he, ch_same hC⟩
  · exact (of_any n w h h2).mono fun _ _ ⟨he, hC⟩ => ⟨by rw [he, hl], hC⟩
theorem C_refOf {n : Int} {l : List UInt8} (hl : nb n.toNat = l) (h1 : -9223372036854775808 ≤ n) (h2 : n ≤ 9223372036854775807) : Ans 29 #[.int .i64 n] (S l) := fun w =>
  (refOf_any n w h1 h2).mono fun _ _ ⟨he, hC⟩ => ⟨by rw [he, hl], hC⟩
theorem C_int {a : List UInt8} {k : Int} (ha : a.length ≤ 10000) (hk : (bv a : Int) = k) (h : k ≤ 9223372036854775807) : Ans 28 #[S a] (.tuple #[.int .i64 k, .bool true]) := fun w =>
  (int_yes a w (max_k ha) (by omega)).mono fun _ _ ⟨he, hC⟩ => ⟨by rw [he, hk], ch_same hC⟩
/-- Int of both packages answers alike. -/
theorem C_int_both {a : List UInt8} (ha : a.length ≤ 10000) : ∃ (k : Int) (ok : Bool), Ans 28 #[S a] (.tuple #[.int .i64 k, .bool ok]) ∧ Ans 30 #[S a] (.tuple #[.int .i64 k, .bool ok]) := by
  by_cases h : bv a ≤ 9223372036854775807
  · exact ⟨bv a, true, fun w => (int_yes a w (max_k ha) h).mono fun _ _ ⟨he, hC⟩ => ⟨he, ch_same hC⟩, fun w => (refInt_yes a w (by omega) h).mono fun _ _ ⟨he, hC⟩ => ⟨he, ch_same hC⟩⟩
  · exact ⟨0, false, fun w => (int_no a w (max_k ha) h).mono fun _ _ ⟨he, hC⟩ => ⟨he, ch_same hC⟩, fun w => (refInt_no a w (by omega) h).mono fun _ _ ⟨he, hC⟩ => ⟨he, ch_same hC⟩⟩
end Go.Proofs.YtcghnkdfhiancaaDoor
