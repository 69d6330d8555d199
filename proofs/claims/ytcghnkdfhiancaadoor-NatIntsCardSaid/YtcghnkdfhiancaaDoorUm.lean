/- Mathematics of long arithmetic base 2^24. -/
import Derived.Test.YtcghnkdfhiancaaDoorUa
namespace Go.Proofs.YtcghnkdfhiancaaDoor
theorem ev_getD (xs : List Nat) (k : Nat) : ev (xs.take (k + 1)) = ev (xs.take k) + E24 ^ k * xs.getD k 0 := by
  by_cases h : k < xs.length
  · rw [ev_take_succ xs k h, List.getD_eq_getElem?_getD, List.getElem?_eq_getElem h]; rfl
  · rw [List.take_of_length_le (by omega), List.take_of_length_le (by omega), List.getD_eq_getElem?_getD, List.getElem?_eq_none (by omega)]; simp
theorem getD_lt (xs : List Nat) (h : Eok xs) (k : Nat) : xs.getD k 0 < E24 := by
  by_cases hk : k < xs.length
  · rw [List.getD_eq_getElem?_getD, List.getElem?_eq_getElem hk]; exact h.get k hk
  · rw [List.getD_eq_getElem?_getD, List.getElem?_eq_none (by omega)]; exact E24_pos
theorem put_step (zs : List Nat) (k s : Nat) (hz : zs.length = k) : ev (zs ++ [s % E24]) + E24 ^ (k + 1) * (s / E24) = ev zs + E24 ^ k * s := by
  rw [ev_snoc, hz, Nat.pow_succ, Nat.add_assoc, Nat.mul_assoc, ← Nat.mul_add, Nat.mod_add_div]
theorem add_put (zs : List Nat) (k c x y X Y : Nat) (hz : zs.length = k) (h : ev zs + E24 ^ k * c = X + Y) :
    ev (zs ++ [(c + x + y) % E24]) + E24 ^ (k + 1) * ((c + x + y) / E24) = (X + E24 ^ k * x) + (Y + E24 ^ k * y) := by
  rw [put_step zs k _ hz, Nat.mul_add, Nat.mul_add]; omega
theorem times_put (zs : List Nat) (k c x d X : Nat) (hz : zs.length = k) (h : ev zs + E24 ^ k * c = X * d) :
    ev (zs ++ [(x * d + c) % E24]) + E24 ^ (k + 1) * ((x * d + c) / E24) = (X + E24 ^ k * x) * d := by
  rw [put_step zs k _ hz, Nat.mul_add, Nat.add_mul, Nat.mul_assoc]; omega
theorem minus_put (zs : List Nat) (k b b2 x y z X Y : Nat) (hz : zs.length = k) (h : ev zs + Y = X + E24 ^ k * b) (h2 : z + y + b = x + E24 * b2) :
    ev (zs ++ [z]) + (Y + E24 ^ k * y) = (X + E24 ^ k * x) + E24 ^ (k + 1) * b2 := by
  rw [ev_snoc, hz, Nat.pow_succ, Nat.mul_assoc]
  have : E24 ^ k * (z + y + b) = E24 ^ k * (x + E24 * b2) := by rw [h2]
  rw [Nat.mul_add, Nat.mul_add, Nat.mul_add] at this
  omega
theorem ev_set (xs : List Nat) (p z : Nat) (hp : p < xs.length) : ev (xs.set p z) + E24 ^ p * xs[p] = ev xs + E24 ^ p * z := by
  have h1 := ev_take_drop xs p (by omega)
  have h2 := ev_take_drop (xs.set p z) p (by rw [List.length_set]; omega)
  rw [List.take_set_of_le (Nat.le_refl _), List.drop_set, if_neg (by omega), Nat.sub_self] at h2
  have h3 := List.drop_eq_getElem_cons hp
  rw [h3] at h1 h2
  rw [List.set_cons_zero, ev_cons] at h2
  rw [ev_cons] at h1
  rw [h1, h2]
  simp only [Nat.mul_add]
  omega
theorem mul_put (zs : List Nat) (i m j u v c s W : Nat) (hj : j < m) (hz : i + j < zs.length) (h : ev (zs.take (i + m)) + E24 ^ (i + j) * c = W) (hs : s = zs[i + j] + u * v + c) :
    ev ((zs.set (i + j) (s % E24)).take (i + m)) + E24 ^ (i + (j + 1)) * (s / E24) = W + E24 ^ i * (u * (E24 ^ j * v)) := by
  have hl : i + j < (zs.take (i + m)).length := by rw [List.length_take]; omega
  have h1 := ev_set (zs.take (i + m)) (i + j) (s % E24) hl
  rw [List.getElem_take] at h1
  rw [List.take_set, ← Nat.add_assoc, Nat.pow_succ, Nat.mul_assoc]
  have h3 : E24 ^ (i + j) * (s % E24 + E24 * (s / E24)) = E24 ^ (i + j) * (zs[i + j] + u * v + c) := by rw [Nat.mod_add_div, hs]
  rw [Nat.mul_add, Nat.mul_add, Nat.mul_add] at h3
  have h4 : E24 ^ i * (u * (E24 ^ j * v)) = E24 ^ (i + j) * (u * v) := by rw [Nat.pow_add]; simp only [Nat.mul_assoc, Nat.mul_left_comm]
  rw [h4]
  omega
theorem mul_end (zs : List Nat) (q c : Nat) (hq : q < zs.length) : ev ((zs.set q c).take (q + 1)) = ev (zs.take q) + E24 ^ q * c := by
  rw [ev_take_succ _ q (by rw [List.length_set]; exact hq), List.take_set_of_le (Nat.le_refl _), List.getElem_set_self]
theorem quo_put (A V u : Nat) (hV : 0 < V) : (u + E24 * A) / V = (u + E24 * (A % V)) / V + E24 * (A / V) ∧ (u + E24 * A) % V = (u + E24 * (A % V)) % V := by
  have h := Nat.mod_add_div A V
  have e : u + E24 * A = u + E24 * (A % V) + V * (E24 * (A / V)) := by
    rw [Nat.add_assoc, Nat.mul_left_comm V E24, ← Nat.mul_add, h]
  constructor
  · rw [e, Nat.add_mul_div_left _ _ hV]
  · rw [e, Nat.add_mul_mod_self_left]
theorem quo_digit (A V u : Nat) (hV : 0 < V) (hu : u < E24) : (u + E24 * (A % V)) / V < E24 := by
  rw [Nat.div_lt_iff_lt_mul hV]
  have h := Nat.mod_lt A hV
  have : E24 * (A % V + 1) ≤ E24 * V := Nat.mul_le_mul_left _ h
  rw [Nat.mul_add, Nat.mul_one] at this
  omega
end Go.Proofs.YtcghnkdfhiancaaDoor
