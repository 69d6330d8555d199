/- Package ratio's Cmp. -/
import Derived.Test.YtnblmmhpndnjcaaGreatDoorQg
namespace Go.Proofs.YtnblmmhpndnjcaaGreatDoor
open Go.RowKit
theorem sign_lt {x y : Int} (h : Int.sign x < Int.sign y) : x < y := by
  rcases Int.lt_trichotomy x 0 with hx | hx | hx <;> rcases Int.lt_trichotomy y 0 with hy | hy | hy
  all_goals first | omega | (simp [Int.sign_eq_neg_one_of_neg, Int.sign_eq_one_of_pos, hx, hy] at h; done) | (rw [Int.sign_eq_one_of_pos hx] at h; first | (rw [Int.sign_eq_one_of_pos hy] at h; omega) | (rw [Int.sign_eq_neg_one_of_neg hy] at h; omega) | (rw [hy] at h; simp at h)) | (rw [Int.sign_eq_neg_one_of_neg hx, Int.sign_eq_neg_one_of_neg hy] at h; omega) | (subst hx; rw [Int.sign_eq_neg_one_of_neg hy] at h; simp at h)
theorem sgr_scaled (a : Rat) (k : Nat) (hk : 0 < k) : Int.sign (a.num * (k : Int)) = sgr a := by
  rw [Int.sign_mul, Int.sign_eq_one_of_pos (show (0 : Int) < (k : Int) by omega), Int.mul_one]
  rfl
theorem cmp_lt (a b : Rat) (h : sgr a < sgr b) : sgr (a - b) = -1 := by
  rw [sgr_sub]
  have h1 : a.num * b.den < b.num * a.den := sign_lt (by rw [sgr_scaled _ _ (rpos_den b), sgr_scaled _ _ (rpos_den a)]; exact h)
  exact Int.sign_eq_neg_one_of_neg (by omega)
theorem cmp_gt (a b : Rat) (h : sgr b < sgr a) : sgr (a - b) = 1 := by
  rw [sgr_sub]
  have h1 : b.num * a.den < a.num * b.den := sign_lt (by rw [sgr_scaled _ _ (rpos_den b), sgr_scaled _ _ (rpos_den a)]; exact h)
  exact Int.sign_eq_one_of_pos (by omega)
theorem cmp_signs (a b : Rat) (h : sgr a ≠ sgr b) : sgr (a - b) = Lib.compareInt (sgr a) (sgr b) := by
  unfold Lib.compareInt
  rcases Int.lt_or_gt_of_ne h with h1 | h1
  · rw [if_pos h1, cmp_lt a b h1]
  · rw [if_neg (by omega), if_pos h1, cmp_gt a b h1]
theorem sign_cmpN (x y : Nat) : Int.sign ((x : Int) - (y : Int)) = cmpN x y := by
  unfold cmpN
  split
  · exact Int.sign_eq_neg_one_of_neg (by omega)
  · split
    · exact Int.sign_eq_one_of_pos (by omega)
    · rw [show (x : Int) - (y : Int) = 0 by omega]; rfl
theorem cmp_same {a b : Rat} {s : Bool} {n d m e : List UInt8} (ia : Is a s n d) (ib : Is b s m e) : sgr (a - b) = if s then -cmpN (bv n * bv e) (bv m * bv d) else cmpN (bv n * bv e) (bv m * bv d) := by
  rw [sgr_sub, ← ia.val, ← ib.val, ← ia.vd, ← ib.vd, ← sign_cmpN]
  unfold sv
  cases s
  · simp
  · simp only [if_true]
    rw [← Int.sign_neg]
    congr 1
    rw [Int.natCast_mul, Int.natCast_mul, Int.neg_mul, Int.neg_mul]
    omega
theorem same_sign {a b : Rat} {s t : Bool} {n d m e : List UInt8} (ia : Is a s n d) (ib : Is b t m e) (h : sgr a = sgr b) (hne : a ≠ b) : s = t := by
  rw [ia.sgr, ib.sgr] at h
  by_cases hn : n = []
  · rw [if_pos hn] at h
    by_cases hm : m = []
    · exact absurd ((ia.nil.1 hn).trans (ib.nil.1 hm).symm) hne
    · rw [if_neg hm] at h
      cases t <;> simp at h
  · rw [if_neg hn] at h
    by_cases hm : m = []
    · rw [if_pos hm] at h
      cases s <;> simp at h
    · rw [if_neg hm] at h
      cases s <;> cases t <;> simp at h ⊢
theorem cmpN_range (x y : Nat) : -1 ≤ cmpN x y ∧ cmpN x y ≤ 1 := by
  unfold cmpN
  split
  · omega
  · split <;> omega
end Go.Proofs.YtnblmmhpndnjcaaGreatDoor
