/- Sizes and signs that the laws of layer 4 share. -/
import Derived.Test.YtnblmmhpndnjcaaGreatDoorAz
import Derived.Test.YtnblmmhpndnjcaaGreatDoorAy
namespace Go.Proofs.YtnblmmhpndnjcaaGreatDoor
open Go.RowKit
abbrev i64m (x : Int) : Prop := -9223372036854775808 ≤ x ∧ x ≤ 9223372036854775807
theorem downQ_size {a t : Rat} {K M : Nat} (ha : Szq a K) (ht : Szq t M) (h : t ≠ 0) : Szq (downQ a t) (K + M + 1 + M) := by
  unfold downQ
  exact (floor_size (ha.div ht h)).mul ht
theorem upQ_size {a t : Rat} {K M : Nat} (ha : Szq a K) (ht : Szq t M) (h : t ≠ 0) : Szq (upQ a t) (K + M + 1 + M + M + 1) := by
  unfold upQ
  split
  · exact ha.mono (by omega)
  · exact (downQ_size ha ht h).add ht
theorem half_size : Szq (1 / 2 : Rat) 1 := by constructor <;> decide +kernel
theorem nearQ_size {a t : Rat} {K M : Nat} (ha : Szq a K) (ht : Szq t M) (h : t ≠ 0) : Szq (nearQ a t) ((K + (M + 1) + 1) + M + 1 + M) := by
  unfold nearQ
  exact downQ_size (ha.add (ht.mul half_size)) ht h
theorem sgr_np {q : Rat} (h : q ≤ 0) : sgr q ≤ 0 := by
  have h1 : q.num ≤ 0 := by
    rcases Int.lt_or_le 0 q.num with h2 | h2
    · exfalso
      have h3 : (0 : Rat) ≤ q := Rat.num_nonneg.1 (by omega)
      have h4 : q = 0 := Rat.le_antisymm h h3
      rw [h4] at h2
      exact absurd h2 (by decide)
    · exact h2
  unfold sgr
  exact Int.sign_nonpos_iff.2 h1
theorem np_sgr {q : Rat} (h : sgr q ≤ 0) : q ≤ 0 := by
  unfold sgr at h
  have h1 : q.num ≤ 0 := Int.sign_nonpos_iff.1 h
  have h2 : 0 ≤ -q := Rat.num_nonneg.1 (by rw [Rat.neg_num]; omega)
  grind
theorem sub_np {a b : Rat} (h : a ≤ b) : a - b ≤ 0 := by grind
theorem np_sub {a b : Rat} (h : a - b ≤ 0) : a ≤ b := by grind
theorem can_yes {a t : Rat} {s u : Bool} {n d m e : List UInt8} (ia : Is a s n d) (it : Is t u m e) (h : 0 < t) : canB s n d u m e = true := by
  unfold canB
  rw [rightR_of ia, ratOf_is it, sgr_one h]
  rfl
end Go.Proofs.YtnblmmhpndnjcaaGreatDoor
