/- Plain mathematics of Montgomery's products. -/
import Derived.Test.YtcghnkdfhiancaaGreatDoorNr
namespace Go.Proofs.YtcghnkdfhiancaaGreatDoor
/-- One round: the digit that is made 0, and what is kept. -/
theorem mont_round (_B P M X y t H H2 Yk q : Nat) (hk : H * P = X * Yk + M * q) (h2 : H2 = H + X * y + M * t) : H2 * P = X * (Yk + P * y) + M * (q + P * t) := by
  subst h2
  grind
theorem mont_zero (B M f H1 t : Nat) (_hB : 0 < B) (hf : (M * f + 1) % B = 0) (ht : t = H1 % B * f % B) : (H1 + M * t) % B = 0 := by
  have h1 : (H1 + M * t) % B = (H1 + M * (H1 * f)) % B := by
    subst ht
    rw [Nat.add_mod, Nat.mul_mod M, Nat.mod_mod, Nat.mul_mod (H1 % B), Nat.mod_mod, ← Nat.mul_mod H1 f, ← Nat.mul_mod, ← Nat.add_mod]
  rw [h1, show H1 + M * (H1 * f) = H1 * (M * f + 1) from by grind, Nat.mul_mod, hf, Nat.mul_zero, Nat.zero_mod]
theorem mont_lt (P M X Yk q H : Nat) (_hP : 0 < P) (hX : X < M) (hY : Yk < P) (hq : q < P) (hk : H * P = X * Yk + M * q) : H < 2 * M := by
  refine Nat.lt_of_mul_lt_mul_right (a := P) ?_
  have h1 : X * Yk ≤ M * Yk := Nat.mul_le_mul_right _ (Nat.le_of_lt hX)
  have h2 : M * Yk < M * P := Nat.mul_lt_mul_of_pos_left hY (by omega)
  have h3 : M * q < M * P := Nat.mul_lt_mul_of_pos_left hq (by omega)
  have h4 : 2 * M * P = M * P + M * P := by grind
  omega
theorem mont_lt2 (B M X y t H : Nat) (hX : X < M) (hy : y < B) (ht : t < B) (hH : H < 2 * M) : H + X * y + M * t < 2 * M * B := by
  have h1 : X * y ≤ M * y := Nat.mul_le_mul_right _ (Nat.le_of_lt hX)
  have h2 : M * (y + 1) ≤ M * B := Nat.mul_le_mul_left _ hy
  have h3 : M * (t + 1) ≤ M * B := Nat.mul_le_mul_left _ ht
  have h4 : 2 * M * B = M * B + M * B := by grind
  rw [Nat.mul_add, Nat.mul_one] at h2 h3
  omega
theorem q_next (P B q t : Nat) (hq : q < P) (ht : t < B) : q + P * t < P * B := by
  have := Nat.mul_le_mul_left P (show t + 1 ≤ B from ht)
  rw [Nat.mul_add, Nat.mul_one] at this
  omega
theorem two_pow_room (M n L : Nat) (hM : M < D ^ n) (hL : n + 2 ≤ L) : 2 * M * D < D ^ L := by
  have h1 : D ^ (n + 2) ≤ D ^ L := Nat.pow_le_pow_right D_pos hL
  have h2 : D ^ (n + 2) = D ^ n * (D * D) := by rw [Nat.pow_add, Nat.pow_two]
  have h3 : 2 * D ≤ D * D := Nat.mul_le_mul_right D (by unfold D; omega)
  have h4 : M * (2 * D) < D ^ n * (2 * D) := Nat.mul_lt_mul_of_pos_right hM (Nat.mul_pos (by omega) D_pos)
  have h5 := Nat.mul_le_mul_left (D ^ n) h3
  have h6 : 2 * M * D = M * (2 * D) := by rw [Nat.mul_comm 2 M, Nat.mul_assoc]
  omega
/-- No carry goes beyond the digits. -/
theorem no_carry (z c L V : Nat) (h : z + D ^ L * c = V) (hV : V < D ^ L) : z = V := by
  rcases Nat.eq_zero_or_pos c with h0 | h0
  · subst h0; rw [Nat.mul_zero, Nat.add_zero] at h; exact h
  · have := Nat.mul_le_mul_left (D ^ L) h0
    omega
theorem head_mod (x : Nat) (xs : List Nat) (hx : x < D) : dv (x :: xs) % D = x ∧ dv (x :: xs) = x + D * dv xs := by
  refine ⟨?_, rfl⟩
  rw [dv_cons, Nat.add_mul_mod_self_left, Nat.mod_eq_of_lt hx]
theorem mont_end (P M X Y q H Z : Nat) (hk : H * P = X * Y + M * q) (hZ : Z = H ∨ Z + M = H) : Z * P % M = X * Y % M := by
  rcases hZ with rfl | hZ
  · rw [hk, Nat.add_mul_mod_self_left]
  · have h1 : Z * P + M * P = X * Y + M * q := by rw [← Nat.add_mul, hZ, hk]
    have h2 : (Z * P + M * P) % M = (X * Y + M * q) % M := by rw [h1]
    rw [Nat.add_mul_mod_self_left, Nat.add_mul_mod_self_left] at h2
    exact h2
end Go.Proofs.YtcghnkdfhiancaaGreatDoor
