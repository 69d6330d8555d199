/- Plain mathematics of little-endian digits to the base 2^64. -/
import Derived.Test.YtcghnkdfhiancaaDoorNm
namespace Go.Proofs.YtcghnkdfhiancaaDoor
/-- The base of digits. -/
def D : Nat := 18446744073709551616
theorem D_eq : D = 18446744073709551616 := rfl
theorem D_pos : 0 < D := by unfold D; omega
/-- The value of digits, the least significant one first. -/
def dv : List Nat → Nat | [] => 0 | x :: xs => x + D * dv xs
def Dok (xs : List Nat) : Prop := ∀ x ∈ xs, x < D
theorem Dok.nil : Dok [] := fun _ h => by simp at h
theorem Dok.cons {x : Nat} {xs : List Nat} (h : x < D) (k : Dok xs) : Dok (x :: xs) := fun y hy => by
  rcases List.mem_cons.1 hy with rfl | q
  · exact h
  · exact k y q
theorem Dok.append {xs ys : List Nat} (h : Dok xs) (k : Dok ys) : Dok (xs ++ ys) := fun y hy => by
  rcases List.mem_append.1 hy with q | q
  · exact h y q
  · exact k y q
theorem Dok.left {xs ys : List Nat} (h : Dok (xs ++ ys)) : Dok xs := fun y hy => h y (List.mem_append_left _ hy)
theorem Dok.right {xs ys : List Nat} (h : Dok (xs ++ ys)) : Dok ys := fun y hy => h y (List.mem_append_right _ hy)
theorem Dok.take {xs : List Nat} (h : Dok xs) (k : Nat) : Dok (xs.take k) := fun y hy => h y (List.mem_of_mem_take hy)
theorem Dok.drop {xs : List Nat} (h : Dok xs) (k : Nat) : Dok (xs.drop k) := fun y hy => h y (List.mem_of_mem_drop hy)
theorem Dok.get {xs : List Nat} (h : Dok xs) (k : Nat) (hk : k < xs.length) : xs[k] < D := h _ (List.getElem_mem hk)
theorem Dok.zeros (n : Nat) : Dok (List.replicate n 0) := fun y hy => by
  rw [(List.mem_replicate.1 hy).2]; exact D_pos
theorem Dok.set {xs : List Nat} (h : Dok xs) (k v : Nat) (hv : v < D) : Dok (xs.set k v) := fun y hy => by
  rcases List.mem_or_eq_of_mem_set hy with q | q
  · exact h y q
  · rw [q]; exact hv
theorem dv_nil : dv [] = 0 := rfl
theorem dv_cons (x : Nat) (xs : List Nat) : dv (x :: xs) = x + D * dv xs := rfl
theorem dv_append (xs ys : List Nat) : dv (xs ++ ys) = dv xs + D ^ xs.length * dv ys := by
  induction xs with
  | nil => simp [dv]
  | cons x xs ih =>
    simp only [List.cons_append, dv_cons, ih, List.length_cons, Nat.pow_succ, Nat.mul_add]
    rw [← Nat.mul_assoc D (D ^ xs.length), Nat.mul_comm D (D ^ xs.length)]
    omega
theorem dv_snoc (xs : List Nat) (y : Nat) : dv (xs ++ [y]) = dv xs + D ^ xs.length * y := by
  rw [dv_append]; simp [dv]
theorem dv_lt {xs : List Nat} (h : Dok xs) : dv xs < D ^ xs.length := by
  induction xs with
  | nil => simp [dv]
  | cons x xs ih =>
    have h1 := h x (List.mem_cons_self ..)
    have h2 := ih (fun y hy => h y (List.mem_cons_of_mem _ hy))
    rw [dv_cons, List.length_cons, Nat.pow_succ, Nat.mul_comm (D ^ xs.length) D]
    have := Nat.mul_le_mul_left D (show dv xs + 1 ≤ D ^ xs.length from h2)
    rw [Nat.mul_add] at this
    omega
theorem dv_zeros (n : Nat) : dv (List.replicate n 0) = 0 := by
  induction n with
  | zero => rfl
  | succ n ih => rw [List.replicate_succ, dv_cons, ih]; simp
theorem dv_take_drop (xs : List Nat) (k : Nat) (hk : k ≤ xs.length) : dv xs = dv (xs.take k) + D ^ k * dv (xs.drop k) := by
  have := dv_append (xs.take k) (xs.drop k)
  rw [List.take_append_drop, List.length_take, Nat.min_eq_left hk] at this
  exact this
theorem dv_take_succ (xs : List Nat) (k : Nat) (hk : k < xs.length) : dv (xs.take (k + 1)) = dv (xs.take k) + D ^ k * xs[k] := by
  rw [List.take_succ_eq_append_getElem hk, dv_snoc, List.length_take, Nat.min_eq_left (by omega)]
/-- The digits of a number without zeros at the end. -/
def ds (n : Nat) : List Nat := if _h : n = 0 then [] else n % D :: ds (n / D)
termination_by n
decreasing_by exact Nat.div_lt_self (by omega) (by unfold D; omega)
theorem ds_zero : ds 0 = [] := by unfold ds; simp
theorem ds_pos (n : Nat) (h : n ≠ 0) : ds n = n % D :: ds (n / D) := by rw [ds]; simp [h]
theorem dv_ds (n : Nat) : dv (ds n) = n := by
  induction n using Nat.strongRecOn with
  | ind n ih =>
    by_cases h : n = 0
    · subst h; rw [ds_zero]; rfl
    · rw [ds_pos n h, dv_cons, ih (n / D) (Nat.div_lt_self (by omega) (by unfold D; omega))]
      exact Nat.mod_add_div n D
theorem dok_ds (n : Nat) : Dok (ds n) := by
  induction n using Nat.strongRecOn with
  | ind n ih =>
    by_cases h : n = 0
    · subst h; rw [ds_zero]; exact Dok.nil
    · rw [ds_pos n h]
      exact Dok.cons (Nat.mod_lt _ D_pos) (ih (n / D) (Nat.div_lt_self (by omega) (by unfold D; omega)))
theorem ds_get (n i : Nat) (hi : i < (ds n).length) : (ds n)[i] = n / D ^ i % D := by
  induction n using Nat.strongRecOn generalizing i with
  | ind n ih =>
    by_cases h : n = 0
    · subst h; simp [ds_zero] at hi
    · have e := ds_pos n h
      rcases i with _ | i
      · simp [e]
      · have hi' : i < (ds (n / D)).length := by rw [e] at hi; simpa using hi
        have := ih (n / D) (Nat.div_lt_self (by omega) (by unfold D; omega)) i hi'
        simp only [e, List.getElem_cons_succ, this]
        rw [Nat.div_div_eq_div_mul, Nat.pow_succ, Nat.mul_comm D]
theorem ds_len (n k : Nat) : (ds n).length ≤ k ↔ n < D ^ k := by
  induction n using Nat.strongRecOn generalizing k with
  | ind n ih =>
    by_cases h : n = 0
    · subst h; simp [ds_zero, Nat.pow_pos D_pos]
    · rw [ds_pos n h, List.length_cons]
      rcases k with _ | k
      · simp; omega
      · have := ih (n / D) (Nat.div_lt_self (by omega) (by unfold D; omega)) k
        rw [show (ds (n / D)).length + 1 ≤ k + 1 ↔ (ds (n / D)).length ≤ k from by omega, this, Nat.div_lt_iff_lt_mul D_pos, Nat.pow_succ]
/-- How many digits are left without the zeros at the end. -/
def tlen : List Nat → Nat | [] => 0 | x :: xs => if tlen xs = 0 then (if x = 0 then 0 else 1) else tlen xs + 1
theorem tlen_le (xs : List Nat) : tlen xs ≤ xs.length := by
  induction xs with
  | nil => simp [tlen]
  | cons x xs ih => simp only [tlen, List.length_cons]; split <;> (try split) <;> omega
theorem tlen_iff (xs : List Nat) (k : Nat) : tlen xs ≤ k ↔ ∀ j, k ≤ j → xs.getD j 0 = 0 := by
  induction xs generalizing k with
  | nil => simp [tlen]
  | cons x xs ih =>
    rcases k with _ | k
    · have := ih 0
      simp only [tlen]
      constructor
      · intro h j _
        by_cases h0 : tlen xs = 0
        · rw [if_pos h0] at h
          have hx : x = 0 := by by_cases q : x = 0; exact q; rw [if_neg q] at h; omega
          rcases j with _ | j
          · simpa using hx
          · simpa using (this.1 (by omega)) j (by omega)
        · rw [if_neg h0] at h; omega
      · intro h
        have h1 : tlen xs = 0 := by
          have := this.2 (fun j _ => by simpa using h (j + 1) (by omega)); omega
        have h2 : x = 0 := by simpa using h 0 (by omega)
        rw [if_pos h1, if_pos h2]; omega
    · have := ih k
      simp only [tlen]
      constructor
      · intro h j hj
        rcases j with _ | j
        · omega
        · have h1 : tlen xs ≤ k := by split at h <;> omega
          simpa using this.1 h1 j (by omega)
      · intro h
        have h1 := this.2 (fun j hj => by simpa using h (j + 1) (by omega))
        split <;> (try split) <;> omega
theorem dv_eq_zero (xs : List Nat) : dv xs = 0 ↔ tlen xs = 0 := by
  induction xs with
  | nil => simp [dv, tlen]
  | cons x xs ih =>
    rw [dv_cons]
    have := D_pos
    simp only [tlen]
    by_cases h : tlen xs = 0
    · rw [if_pos h, ih.2 h]
      by_cases hx : x = 0 <;> simp [hx]
    · have h1 : dv xs ≠ 0 := fun q => h (ih.1 q)
      have h2 : 0 < D * dv xs := Nat.mul_pos D_pos (by omega)
      rw [if_neg h]; omega
theorem trimD (xs : List Nat) (h : Dok xs) : xs.take (tlen xs) = ds (dv xs) := by
  induction xs with
  | nil => simp [dv, ds_zero]
  | cons x xs ih =>
    have h1 : x < D := h x (List.mem_cons_self ..)
    have ih := ih (fun y hy => h y (List.mem_cons_of_mem _ hy))
    rw [dv_cons]
    by_cases h0 : tlen xs = 0
    · have hz := (dv_eq_zero xs).2 h0
      simp only [tlen, if_pos h0, hz]
      by_cases hx : x = 0
      · simp [hx, ds_zero]
      · rw [if_neg hx, show x + D * 0 = x from by simp, ds_pos x hx, Nat.mod_eq_of_lt h1, Nat.div_eq_of_lt h1, ds_zero]
        simp
    · have hz : dv xs ≠ 0 := fun q => h0 ((dv_eq_zero xs).1 q)
      have hp : 0 < D * dv xs := Nat.mul_pos D_pos (by omega)
      simp only [tlen, if_neg h0]
      rw [ds_pos (x + D * dv xs) (by omega), Nat.add_mul_mod_self_left, Nat.mod_eq_of_lt h1, Nat.add_mul_div_left _ _ D_pos, Nat.div_eq_of_lt h1, Nat.zero_add, List.take_succ_cons, ih]
theorem dv_trim (xs : List Nat) (h : Dok xs) : dv (xs.take (tlen xs)) = dv xs := by rw [trimD xs h, dv_ds]
theorem tlen_ds (n : Nat) : tlen (ds n) = (ds n).length := by
  have h := trimD (ds n) (dok_ds n)
  rw [dv_ds] at h
  have := congrArg List.length h
  rw [List.length_take] at this
  have := tlen_le (ds n)
  omega
theorem D_pow (k : Nat) : D ^ k = 256 ^ (8 * k) := by rw [Nat.pow_mul, show (256 : Nat) ^ 8 = D from by decide]
theorem ds_len_bytes (l : List UInt8) : (ds (bv l)).length = ((trimL l).length + 7) / 8 := by
  have h1 : ∀ k, (ds (bv l)).length ≤ k ↔ (trimL l).length ≤ 8 * k := fun k => by rw [ds_len, D_pow, trim_len]
  have h2 := (h1 (ds (bv l)).length).1 (Nat.le_refl _)
  rcases Nat.eq_zero_or_pos (ds (bv l)).length with h0 | h0
  · omega
  · have h3 := h1 ((ds (bv l)).length - 1)
    omega
theorem ds_chunk (l : List UInt8) (k e : Nat) (he : e = (trimL l).length - 8 * k) (hk : k < (ds (bv l)).length) : bv (((trimL l).take e).drop (e - 8)) = (ds (bv l))[k] := by
  have h := ds_len_bytes l
  rw [bv_chunk (trimL l) k e he (by omega), ds_get, D_pow, bv_trim, show (256 : Nat) ^ 8 = D from by decide]
theorem fill_set {α : Type} (xs : List α) (k n : Nat) (z v : α) (hk : k < n) (hl : xs.length = n) (hv : xs[k]? = some v) :
    (xs.take k ++ List.replicate (n - k) z).set k v = xs.take (k + 1) ++ List.replicate (n - (k + 1)) z := by
  have hkl : k < xs.length := by omega
  have e : v = xs[k] := by rw [List.getElem?_eq_getElem hkl] at hv; exact (Option.some.inj hv).symm
  rw [List.set_append_right _ _ (by simp; omega), List.length_take, Nat.min_eq_left (by omega), Nat.sub_self,
    show n - k = (n - (k + 1)) + 1 from by omega, List.replicate_succ, List.set_cons_zero, List.take_succ_eq_append_getElem hkl, e, List.append_assoc]
  rfl
end Go.Proofs.YtcghnkdfhiancaaDoor
