/- Plain mathematics of a division of two words by one, in halves of words. -/
import Derived.Test.YtcghnkdfhiancaaDoorNd
namespace Go.Proofs.YtcghnkdfhiancaaDoor
/-- The base of halves. -/
theorem h_start (Y un d : Nat) (hY : 9223372036854775808 ≤ Y) (hY2 : Y < 18446744073709551616) (hun : un < Y) (hd : d < 4294967296) :
    (un * 4294967296 + d) / Y ≤ un / (Y / 4294967296) ∧ un / (Y / 4294967296) ≤ 4294967297 ∧ (un * 4294967296 + d) / Y < 4294967296 ∧ 2147483648 ≤ Y / 4294967296 ∧ Y / 4294967296 < 4294967296 := by
  have h1 : 2147483648 ≤ Y / 4294967296 := by omega
  have hm := Nat.div_add_mod Y 4294967296
  have hml := Nat.mod_lt Y (show 4294967296 > 0 by decide)
  generalize Y / 4294967296 = a at *
  generalize Y % 4294967296 = b at *
  refine ⟨?_, ?_, ?_, h1, by omega⟩
  · rw [Nat.le_div_iff_mul_le (by omega)]
    have q1 := Nat.div_mul_le_self (un * 4294967296 + d) Y
    have q2 : (un * 4294967296 + d) / Y * Y = (un * 4294967296 + d) / Y * a * 4294967296 + (un * 4294967296 + d) / Y * b := by
      rw [← hm, Nat.mul_add, Nat.mul_comm 4294967296 a, Nat.mul_assoc]
    generalize (un * 4294967296 + d) / Y = Q at *
    generalize Q * a = p at *
    generalize Q * b = p2 at *
    omega
  · rw [← Nat.lt_succ_iff, Nat.div_lt_iff_lt_mul (by omega)]
    have : (4294967297 + 1) * a = 4294967296 * a + 2 * a := by omega
    show un < (4294967297 + 1) * a
    omega
  · rw [Nat.div_lt_iff_lt_mul (by omega)]
    omega
theorem h_stop (Y un d q r : Nat) (hY : 0 < Y) (hr : q * (Y / 4294967296) + r = un) (hQ : (un * 4294967296 + d) / Y ≤ q) (h : q * (Y % 4294967296) ≤ 4294967296 * r + d) : (un * 4294967296 + d) / Y = q := by
  refine Nat.le_antisymm hQ ?_
  rw [Nat.le_div_iff_mul_le hY]
  have hm := Nat.div_add_mod Y 4294967296
  generalize Y / 4294967296 = a at *
  generalize Y % 4294967296 = b at *
  have q2 : q * Y = q * a * 4294967296 + q * b := by rw [← hm, Nat.mul_add, Nat.mul_comm 4294967296 a, Nat.mul_assoc]
  generalize q * a = p at *
  generalize q * b = p2 at *
  omega
theorem h_go (Y un d q r : Nat) (hY : 0 < Y) (hr : q * (Y / 4294967296) + r = un) (hQB : (un * 4294967296 + d) / Y < 4294967296) (h : 4294967296 ≤ q ∨ 4294967296 * r + d < q * (Y % 4294967296)) : (un * 4294967296 + d) / Y < q := by
  rcases h with h | h
  · omega
  · rw [Nat.div_lt_iff_lt_mul hY]
    have hm := Nat.div_add_mod Y 4294967296
    generalize Y / 4294967296 = a at *
    generalize Y % 4294967296 = b at *
    have q2 : q * Y = q * a * 4294967296 + q * b := by rw [← hm, Nat.mul_add, Nat.mul_comm 4294967296 a, Nat.mul_assoc]
    generalize q * a = p at *
    generalize q * b = p2 at *
    omega
theorem h_break (Y un d q r : Nat) (hY : 0 < Y) (hr : q * (Y / 4294967296) + r = un) (hq : q ≤ 4294967296) (hQ : (un * 4294967296 + d) / Y ≤ q) (h : 4294967296 ≤ r) : (un * 4294967296 + d) / Y = q := by
  refine h_stop Y un d q r hY hr hQ ?_
  have hml := Nat.mod_lt Y (show 4294967296 > 0 by decide)
  have h1 := Nat.mul_le_mul hq (show Y % 4294967296 ≤ 4294967295 by omega)
  omega
theorem h_dec (a q r un : Nat) (hr : q * a + r = un) (hq : 1 ≤ q) : (q - 1) * a + (r + a) = un := by
  obtain ⟨p, rfl⟩ : ∃ p, q = p + 1 := ⟨q - 1, by omega⟩
  rw [Nat.add_sub_cancel]
  rw [Nat.add_mul] at hr
  omega
/-- The two halves of the quotient, and the rest. -/
theorem h_all (B E N y s Y un l1 l0 Q1 R1 Q0 R0 : Nat) (hB : B * B = E) (hY : Y = y * 2 ^ s) (hy : 0 < y) (hU : un * E + (B * l1 + l0) = N * 2 ^ s)
    (e1 : Y * Q1 + R1 = un * B + l1) (e0 : Y * Q0 + R0 = R1 * B + l0) (m0 : R0 < Y) : Q1 * B + Q0 = N / y ∧ R0 / 2 ^ s = N % y := by
  have hYp : 0 < Y := by rw [hY]; exact Nat.mul_pos hy (Nat.two_pow_pos s)
  have key : N * 2 ^ s = Y * (Q1 * B + Q0) + R0 := by
    rw [← hU, ← hB]
    have h1 : B * (Y * Q1 + R1) = B * (un * B + l1) := by rw [e1]
    grind
  have d1 : N * 2 ^ s / Y = Q1 * B + Q0 := by
    rw [key, Nat.mul_add_div hYp, Nat.div_eq_of_lt m0, Nat.add_zero]
  have d2 : N * 2 ^ s % Y = R0 := by
    rw [key, Nat.mul_add_mod, Nat.mod_eq_of_lt m0]
  constructor
  · rw [← d1, hY, Nat.mul_div_mul_right _ _ (Nat.two_pow_pos s)]
  · rw [← d2, hY, Nat.mul_mod_mul_right, Nat.mul_div_cancel _ (Nat.two_pow_pos s)]
/-- One half of the quotient: what its loop needs. -/
theorem h_pack (Y un d a b : Nat) (hY : 9223372036854775808 ≤ Y) (hY2 : Y < 18446744073709551616) (hun : un < Y) (hd : d < 4294967296) (ha : Y / 4294967296 = a) (hb : Y % 4294967296 = b) :
    ∃ Q R q0 r0, Y * Q + R = un * 4294967296 + d ∧ R < Y ∧ Q < 4294967296 ∧ Q ≤ q0 ∧ q0 ≤ 4294967297 ∧ un / a = q0 ∧ q0 * a + r0 = un ∧ r0 < a ∧
      (∀ q r, q * a + r = un → Q ≤ q → q * b ≤ 4294967296 * r + d → Q = q) ∧
      (∀ q r, q * a + r = un → (4294967296 ≤ q ∨ 4294967296 * r + d < q * b) → Q < q) ∧
      (∀ q r, q * a + r = un → q ≤ 4294967296 → Q ≤ q → 4294967296 ≤ r → Q = q) := by
  subst ha hb
  obtain ⟨h1, h2, h3, h4, h5⟩ := h_start Y un d hY hY2 hun hd
  refine ⟨(un * 4294967296 + d) / Y, (un * 4294967296 + d) % Y, un / (Y / 4294967296), un % (Y / 4294967296), Nat.div_add_mod _ _, Nat.mod_lt _ (by omega), h3, h1, h2, rfl, ?_, Nat.mod_lt _ (by omega), ?_, ?_, ?_⟩
  · rw [Nat.mul_comm]; exact Nat.div_add_mod _ _
  · exact fun q r hr hQ h => h_stop Y un d q r (by omega) hr hQ h
  · exact fun q r hr h => h_go Y un d q r (by omega) hr h3 h
  · exact fun q r hr hq hQ h => h_break Y un d q r (by omega) hr hq hQ h
/-- A word shifted to the left, in two words. -/
theorem shl_split (lo s : Nat) (hs : s ≤ 64) : lo / 2 ^ (64 - s) * D + lo * 2 ^ s % D = lo * 2 ^ s := by
  have hD : D = 2 ^ (64 - s) * 2 ^ s := by rw [← Nat.pow_add, show 64 - s + s = 64 by omega]; rfl
  have h1 : lo * 2 ^ s / D = lo / 2 ^ (64 - s) := by rw [hD, Nat.mul_div_mul_right _ _ (Nat.two_pow_pos s)]
  have h2 := Nat.div_add_mod (lo * 2 ^ s) D
  rw [h1, Nat.mul_comm] at h2
  exact h2
theorem un_eq (hi lo s : Nat) (hs : s ≤ 64) : (hi * 2 ^ s + lo / 2 ^ (64 - s)) * D + lo * 2 ^ s % D = (hi * D + lo) * 2 ^ s := by
  have h := shl_split lo s hs
  rw [Nat.add_mul, Nat.add_mul, Nat.add_assoc, h, Nat.mul_assoc, Nat.mul_assoc, Nat.mul_comm (2 ^ s) D]
theorem un_lt (hi lo y s un L : Nat) (h : hi < y) (hlo : lo < D) (hU : un * D + L = (hi * D + lo) * 2 ^ s) : un < y * 2 ^ s := by
  have h1 : hi * D + lo < y * D := by
    have := Nat.mul_le_mul_right D (show hi + 1 ≤ y from h)
    rw [Nat.add_mul] at this
    omega
  have h2 := Nat.mul_lt_mul_of_pos_right h1 (Nat.two_pow_pos s)
  have h3 : un * D < y * 2 ^ s * D := by
    rw [Nat.mul_assoc y, Nat.mul_comm (2 ^ s) D, ← Nat.mul_assoc]
    omega
  exact Nat.lt_of_mul_lt_mul_right h3
theorem part_lt (lo s : Nat) (hs : s ≤ 64) (hlo : lo < D) : lo / 2 ^ (64 - s) < 2 ^ s := by
  rw [Nat.div_lt_iff_lt_mul (Nat.two_pow_pos _), ← Nat.pow_add, show s + (64 - s) = 64 by omega]
  exact hlo
theorem norm_bounds (y s k : Nat) (hk : k + s = 64) (h1 : y < 2 ^ k) (h2 : 2 ^ (k - 1) ≤ y) (hk1 : 1 ≤ k) : 9223372036854775808 ≤ y * 2 ^ s ∧ y * 2 ^ s < 18446744073709551616 := by
  constructor
  · have := Nat.mul_le_mul_right (2 ^ s) h2
    rw [← Nat.pow_add, show k - 1 + s = 63 by omega] at this
    exact this
  · have := Nat.mul_lt_mul_of_pos_right h1 (Nat.two_pow_pos s)
    rw [← Nat.pow_add, show k + s = 64 by omega] at this
    exact this
end Go.Proofs.YtcghnkdfhiancaaDoor
