/- The reference model of layer 2: Mod, Made. -/
import Derived.Test.YtkeomlpecjjhiaaGreatDoorQq
namespace Go.Proofs.YtkeomlpecjjhiaaGreatDoor
open Go.RowKit
theorem tmod_cases (a m : Int) (hm : 0 < m) : -m < Int.tmod a m ∧ Int.tmod a m < m ∧ (Int.tmod a m < 0 → Int.tmod a m + m = a % m) ∧ (¬ Int.tmod a m < 0 → Int.tmod a m = a % m) := by
 have h1 : (Int.tmod a m).natAbs = a.natAbs % m.natAbs := Int.natAbs_tmod a m
 have h2 : a.natAbs % m.natAbs < m.natAbs := Nat.mod_lt _ (by omega)
 have h3 : Int.tmod a m + m * Int.tdiv a m = a := Int.tmod_add_mul_tdiv a m
 have h4 : a % m = Int.tmod a m % m := by
  conv => lhs; rw [← h3]
  rw [Int.add_mul_emod_self_left]
 refine ⟨by omega, by omega, fun h => ?_, fun h => ?_⟩
 ·rw [h4, ← Int.add_emod_right, Int.emod_eq_of_lt (by omega) (by omega)]
 ·rw [h4, Int.emod_eq_of_lt (by omega) (by omega)]
set_option maxRecDepth 100000 in
set_option maxHeartbeats 3200000 in
theorem C_mod (a m k : Int) (hm : 0 < m) (hm2 : m ≤ 4611686018427387904) (_ : -9223372036854775808 ≤ a) (_ : a ≤ 9223372036854775807) (hk : a % m = k) : Ans 41 #[.int .i64 a, .int .i64 m] (.int .i64 k) := fun w => by
 obtain ⟨h1, h2, h3, h4⟩ := tmod_cases a m hm
 obtain ⟨r, hr⟩ : ∃ r, Int.tmod a m = r := ⟨_, rfl⟩
 rw [hr] at h1 h2 h3 h4
 rw [hk] at h3 h4
 have hw : IntKind.i64.wrap r = r := IntWalk.i64_in _ (by omega)
 have hm0 : ¬ m = 0 := by omega
 have hm1 : (m == 0) = false := by rw [beq_eq_false_iff_ne]; exact hm0
 clear hk
 go_enter Tryz.func41, Tryz.ntmps41
 by_cases hneg : r < 0
 ·have h5 := h3 hneg
  have hw2 : IntKind.i64.wrap (r + m) = r + m := IntWalk.i64_in _ (by omega)
  clear h3 h4
  go_wp2_with fail
  go_ret
  exact ⟨by first | rfl | (rw [h5]; rfl) | rw [h5], Ch.refl _ _ _⟩
 ·have h5 := h4 hneg
  clear h3 h4
  go_wp2_with fail
  go_ret
  exact ⟨by first | rfl | (rw [h5]; rfl) | rw [h5], Ch.refl _ _ _⟩
end Go.Proofs.YtkeomlpecjjhiaaGreatDoor
