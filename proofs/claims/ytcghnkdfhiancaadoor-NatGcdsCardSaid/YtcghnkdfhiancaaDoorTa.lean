/- Contracts of package nat's functions with named results, for the walks of the laws. -/
import Derived.Test.YtcghnkdfhiancaaDoorRc
namespace Go.Proofs.YtcghnkdfhiancaaDoor
open Go.RowKit
abbrev Ans (f : Nat) (args : Array Value) (v : Value) : Prop := ∀ w : World, Calls Tryd.prog f args w (Yld w v)
theorem has_nb (n : Nat) : ∃ l, nb n = l ∧ bv l = n := ⟨nb n, rfl, bv_nb n⟩
theorem lim_k {n : Nat} (h : n ≤ 10000) : n ≤ LIM := by unfold LIM; omega
theorem max_k {n : Nat} (h : n ≤ 10000) : n ≤ maxLen := by unfold maxLen; omega
theorem add_bound {m A B : Nat} (h1 : A < 256 ^ m) (h2 : B < 256 ^ m) : A + B < 256 ^ (m + 1) := by rw [Nat.pow_succ]; omega
theorem mulb {m k A B : Nat} (h1 : A < 256 ^ m) (h2 : B < 256 ^ k) : A * B < 256 ^ (m + k) := mul_bound 256 m k A B h1 h2
theorem upb {m k A : Nat} (h1 : A < 256 ^ m) (h2 : m ≤ k) : A < 256 ^ k := Nat.lt_of_lt_of_le h1 (Nat.pow_le_pow_right (by omega) h2)
theorem bv_b {l : List UInt8} {k : Nat} (h : l.length ≤ k) : bv l < 256 ^ k := upb (bv_lt l) h
theorem nbl {n : Nat} {l : List UInt8} (k : Nat) (hl : nb n = l) (h : n < 256 ^ k) (hk : k ≤ 10000) : l.length ≤ 10000 := by
  subst hl
  exact Nat.le_trans ((nb_len n k).2 h) hk
theorem C_add {a b l : List UInt8} {n : Nat} (hl : nb n = l) (ha : a.length ≤ 10000) (hb : b.length ≤ 10000) (hn : bv a + bv b = n) : Ans 15 #[S a, S b] (S l) := fun w =>
  (Add_any a b w (lim_k ha) (lim_k hb)).mono fun _ _ ⟨he, hC⟩ => ⟨by rw [he, hn, hl], hC⟩
theorem C_mul {a b l : List UInt8} {n : Nat} (hl : nb n = l) (ha : a.length ≤ 10000) (hb : b.length ≤ 10000) (hn : bv a * bv b = n) : Ans 21 #[S a, S b] (S l) := fun w =>
  (Mul_any a b w (lim_k ha) (lim_k hb)).mono fun _ _ ⟨he, hC⟩ => ⟨by rw [he, hn, hl], hC⟩
theorem C_sub {a b l : List UInt8} {n : Nat} (hl : nb n = l) (ha : a.length ≤ 10000) (hb : b.length ≤ 10000) (hn : bv a = n + bv b) : Ans 13 #[S a, S b] (.tuple #[S l, .bool true]) := fun w =>
  (Sub_yes a b w (lim_k ha) (lim_k hb) (by omega)).mono fun _ _ ⟨he, hC⟩ => ⟨by rw [he, show bv a - bv b = n from by omega, hl], hC⟩
theorem C_sub_no {a b : List UInt8} (ha : a.length ≤ 10000) (hb : b.length ≤ 10000) (hn : bv a < bv b) : Ans 13 #[S a, S b] (.tuple #[S [], .bool false]) := fun w =>
  (Sub_no a b w (lim_k ha) (lim_k hb) hn).mono fun _ _ ⟨he, hC⟩ => ⟨he, ch_same hC⟩
theorem C_quo {a b l m : List UInt8} {n k : Nat} (hl : nb n = l) (hm : nb k = m) (ha : a.length ≤ 10000) (hb : b.length ≤ 10000) (h0 : 0 < bv b) (hn : bv a / bv b = n) (hk : bv a % bv b = k) : Ans 34 #[S a, S b] (.tuple #[S l, S m, .bool true]) := fun w =>
  (Quo_yes a b w (lim_k ha) (lim_k hb) h0).mono fun _ _ ⟨he, hC⟩ => ⟨by rw [he, hn, hk, hl, hm], hC⟩
theorem C_quo_no {a b : List UInt8} (hb : b.length ≤ 10000) (h0 : bv b = 0) : Ans 34 #[S a, S b] (.tuple #[S [], S [], .bool false]) := fun w =>
  (Quo_no a b w (lim_k hb) h0).mono fun _ _ ⟨he, hC⟩ => ⟨he, ch_same hC⟩
theorem C_bits {a : List UInt8} {k : Int} (ha : a.length ≤ 10000) (hn : (nbits (bv a) : Int) = k) : Ans 31 #[S a] (.int .i64 k) := fun w =>
  (bits_any a w (by omega)).mono fun _ _ ⟨he, hC⟩ => ⟨by rw [he, hn], ch_same hC⟩
theorem C_cmp {a b : List UInt8} {k : Int} (ha : a.length ≤ 10000) (hb : b.length ≤ 10000) (hn : cmpN (bv a) (bv b) = k) : Ans 17 #[S a, S b] (.int .i64 k) := fun w =>
  (cmp_any a b w (max_k ha) (max_k hb)).mono fun _ _ ⟨he, hC⟩ => ⟨by rw [he, hn], ch_same hC⟩
theorem rightB_rt {l : List UInt8} (h : Rt l) : rightB l = true := by
  rcases h with rfl | ⟨b, m, rfl, hb⟩
  · rfl
  · simpa [rightB] using hb
theorem C_right {a : List UInt8} {k : Bool} (ha : a.length ≤ 10000) (hn : rightB a = k) : Ans 19 #[S a] (.bool k) := fun w =>
  (right_any a w (max_k ha)).mono fun _ _ ⟨he, hC⟩ => ⟨by rw [he, hn], ch_same hC⟩
theorem C_pow {a e m l : List UInt8} {n : Nat} (hl : nb n = l) (ha : a.length ≤ 10000) (hb : e.length ≤ 10000) (hm : m.length ≤ 10000) (h0 : 0 < bv m) (hn : bv a ^ bv e % bv m = n) : Ans 25 #[S a, S e, S m] (.tuple #[S l, .bool true]) := fun w =>
  (Pow_yes a e m w (by omega) (by omega) (by omega) h0).mono fun _ _ ⟨he, hC⟩ => ⟨by rw [he, hn, hl], hC⟩
theorem C_pow_no {a e m : List UInt8} (hm : m.length ≤ 10000) (h0 : bv m = 0) : Ans 25 #[S a, S e, S m] (.tuple #[S [], .bool false]) := fun w =>
  Pow_no a e m w (by omega) h0
theorem C_canon {a l : List UInt8} {n : Nat} (hl : nb n = l) (ha : a.length ≤ 10000) (hn : bv a = n) : Ans 33 #[S a] (S l) := fun w =>
  (canon_any a w (by omega)).mono fun _ _ ⟨he, hC⟩ => ⟨by rw [he, ← hl, trimL_of_nb hn], ch_same hC⟩
theorem C_refRight {a : List UInt8} {k : Bool} (ha : a.length ≤ 10000) (hn : rightB a = k) : Ans 20 #[S a] (.bool k) := fun w =>
  (refRight_any a w (max_k ha)).mono fun _ _ ⟨he, hC⟩ => ⟨by rw [he, hn], ch_same hC⟩
theorem made_all (v : Value) (l : List UInt8) (w : World) (h : BS w v l) :
    ∃ a : List UInt8, a.length ≤ 40 ∧ ∀ w', Ch w.heap.size none1 w w' → Calls Tryd.prog 12 #[v] w' (Yld w' (S a)) :=
  ⟨l.take 40, by rw [List.length_take]; exact Nat.min_le_left _ _, fun w' hC => made_any v l w' (h.ch hC)⟩
theorem sanity_all (w : World) (ht : pow10Is w) : ∀ w', Ch w.heap.size none1 w w' → Calls Tryd.prog 11 #[] w' (Yld w' (.bool true)) := fun w' hC => sanity_true w' (pow_ch ht hC)
/-- Bits of a product. -/
theorem nbits_two (A B : Nat) (hA : 0 < A) (hB : 0 < B) : nbits (A * B) = nbits A + nbits B ∨ nbits (A * B) + 1 = nbits A + nbits B := by
  have h1 := (nbits_iff A (nbits A)).1 (Nat.le_refl _)
  have h2 := (nbits_iff B (nbits B)).1 (Nat.le_refl _)
  have pA : 0 < nbits A := by
    rcases Nat.eq_zero_or_pos (nbits A) with h | h
    · rw [h] at h1; omega
    · exact h
  have pB : 0 < nbits B := by
    rcases Nat.eq_zero_or_pos (nbits B) with h | h
    · rw [h] at h2; omega
    · exact h
  have h3 : 2 ^ (nbits A - 1) ≤ A := by
    have h := mt (nbits_iff A (nbits A - 1)).2 (by omega)
    omega
  have h4 : 2 ^ (nbits B - 1) ≤ B := by
    have h := mt (nbits_iff B (nbits B - 1)).2 (by omega)
    omega
  have h5 : A * B < 2 ^ (nbits A + nbits B) := mul_bound 2 _ _ A B h1 h2
  have h6 : 2 ^ (nbits A - 1 + (nbits B - 1)) ≤ A * B := by rw [Nat.pow_add]; exact Nat.mul_le_mul h3 h4
  have h7 := (nbits_iff (A * B) _).2 h5
  have h8 : ¬ nbits (A * B) ≤ nbits A - 1 + (nbits B - 1) := fun h => by
    have := (nbits_iff (A * B) _).1 h
    omega
  omega
end Go.Proofs.YtcghnkdfhiancaaDoor
