/- Plain mathematics of little-endian digits to the base 2^24. -/
import Derived.Test.YtcghnkdfhiancaaDoorNm
namespace Go.Proofs.YtcghnkdfhiancaaDoor
/-- The base of digits. -/
def E24 : Nat := 16777216
theorem E24_eq : E24 = 16777216 := rfl
theorem E24_pos : 0 < E24 := by unfold E24; omega
/-- The value of digits, the least significant one first. -/
def ev : List Nat → Nat | [] => 0 | x :: xs => x + E24 * ev xs
def Eok (xs : List Nat) : Prop := ∀ x ∈ xs, x < E24
theorem Eok.nil : Eok [] := fun _ h => by simp at h
theorem Eok.cons {x : Nat} {xs : List Nat} (h : x < E24) (k : Eok xs) : Eok (x :: xs) := fun y hy => by
  rcases List.mem_cons.1 hy with rfl | q
  · exact h
  · exact k y q
theorem Eok.append {xs ys : List Nat} (h : Eok xs) (k : Eok ys) : Eok (xs ++ ys) := fun y hy => by
  rcases List.mem_append.1 hy with q | q
  · exact h y q
  · exact k y q
theorem Eok.left {xs ys : List Nat} (h : Eok (xs ++ ys)) : Eok xs := fun y hy => h y (List.mem_append_left _ hy)
theorem Eok.right {xs ys : List Nat} (h : Eok (xs ++ ys)) : Eok ys := fun y hy => h y (List.mem_append_right _ hy)
theorem Eok.take {xs : List Nat} (h : Eok xs) (k : Nat) : Eok (xs.take k) := fun y hy => h y (List.mem_of_mem_take hy)
theorem Eok.drop {xs : List Nat} (h : Eok xs) (k : Nat) : Eok (xs.drop k) := fun y hy => h y (List.mem_of_mem_drop hy)
theorem Eok.get {xs : List Nat} (h : Eok xs) (k : Nat) (hk : k < xs.length) : xs[k] < E24 := h _ (List.getElem_mem hk)
theorem Eok.zeros (n : Nat) : Eok (List.replicate n 0) := fun y hy => by
  rw [(List.mem_replicate.1 hy).2]; exact E24_pos
theorem Eok.set {xs : List Nat} (h : Eok xs) (k v : Nat) (hv : v < E24) : Eok (xs.set k v) := fun y hy => by
  rcases List.mem_or_eq_of_mem_set hy with q | q
  · exact h y q
  · rw [q]; exact hv
theorem ev_nil : ev [] = 0 := rfl
theorem ev_cons (x : Nat) (xs : List Nat) : ev (x :: xs) = x + E24 * ev xs := rfl
theorem ev_append (xs ys : List Nat) : ev (xs ++ ys) = ev xs + E24 ^ xs.length * ev ys := by
  induction xs with
  | nil => simp [ev]
  | cons x xs ih =>
    simp only [List.cons_append, ev_cons, ih, List.length_cons, Nat.pow_succ, Nat.mul_add]
    rw [← Nat.mul_assoc E24 (E24 ^ xs.length), Nat.mul_comm E24 (E24 ^ xs.length)]
    omega
theorem ev_snoc (xs : List Nat) (y : Nat) : ev (xs ++ [y]) = ev xs + E24 ^ xs.length * y := by
  rw [ev_append]; simp [ev]
theorem ev_lt {xs : List Nat} (h : Eok xs) : ev xs < E24 ^ xs.length := by
  induction xs with
  | nil => simp [ev]
  | cons x xs ih =>
    have h1 := h x (List.mem_cons_self ..)
    have h2 := ih (fun y hy => h y (List.mem_cons_of_mem _ hy))
    rw [ev_cons, List.length_cons, Nat.pow_succ, Nat.mul_comm (E24 ^ xs.length) E24]
    have := Nat.mul_le_mul_left E24 (show ev xs + 1 ≤ E24 ^ xs.length from h2)
    rw [Nat.mul_add] at this
    omega
theorem ev_zeros (n : Nat) : ev (List.replicate n 0) = 0 := by
  induction n with
  | zero => rfl
  | succ n ih => rw [List.replicate_succ, ev_cons, ih]; simp
theorem ev_take_drop (xs : List Nat) (k : Nat) (hk : k ≤ xs.length) : ev xs = ev (xs.take k) + E24 ^ k * ev (xs.drop k) := by
  have := ev_append (xs.take k) (xs.drop k)
  rw [List.take_append_drop, List.length_take, Nat.min_eq_left hk] at this
  exact this
theorem ev_take_succ (xs : List Nat) (k : Nat) (hk : k < xs.length) : ev (xs.take (k + 1)) = ev (xs.take k) + E24 ^ k * xs[k] := by
  rw [List.take_succ_eq_append_getElem hk, ev_snoc, List.length_take, Nat.min_eq_left (by omega)]
/-- The digits of a number without zeros at the end. -/
def es (n : Nat) : List Nat := if _h : n = 0 then [] else n % E24 :: es (n / E24)
termination_by n
decreasing_by exact Nat.div_lt_self (by omega) (by unfold E24; omega)
theorem es_zero : es 0 = [] := by unfold es; simp
theorem es_pos (n : Nat) (h : n ≠ 0) : es n = n % E24 :: es (n / E24) := by rw [es]; simp [h]
theorem ev_es (n : Nat) : ev (es n) = n := by
  induction n using Nat.strongRecOn with
  | ind n ih =>
    by_cases h : n = 0
    · subst h; rw [es_zero]; rfl
    · rw [es_pos n h, ev_cons, ih (n / E24) (Nat.div_lt_self (by omega) (by unfold E24; omega))]
      exact Nat.mod_add_div n E24
theorem eok_es (n : Nat) : Eok (es n) := by
  induction n using Nat.strongRecOn with
  | ind n ih =>
    by_cases h : n = 0
    · subst h; rw [es_zero]; exact Eok.nil
    · rw [es_pos n h]
      exact Eok.cons (Nat.mod_lt _ E24_pos) (ih (n / E24) (Nat.div_lt_self (by omega) (by unfold E24; omega)))
theorem es_get (n i : Nat) (hi : i < (es n).length) : (es n)[i] = n / E24 ^ i % E24 := by
  induction n using Nat.strongRecOn generalizing i with
  | ind n ih =>
    by_cases h : n = 0
    · subst h; simp [es_zero] at hi
    · have e := es_pos n h
      rcases i with _ | i
      · simp [e]
      · have hi' : i < (es (n / E24)).length := by rw [e] at hi; simpa using hi
        have := ih (n / E24) (Nat.div_lt_self (by omega) (by unfold E24; omega)) i hi'
        simp only [e, List.getElem_cons_succ, this]
        rw [Nat.div_div_eq_div_mul, Nat.pow_succ, Nat.mul_comm E24]
theorem es_len (n k : Nat) : (es n).length ≤ k ↔ n < E24 ^ k := by
  induction n using Nat.strongRecOn generalizing k with
  | ind n ih =>
    by_cases h : n = 0
    · subst h; simp [es_zero, Nat.pow_pos E24_pos]
    · rw [es_pos n h, List.length_cons]
      rcases k with _ | k
      · simp; omega
      · have := ih (n / E24) (Nat.div_lt_self (by omega) (by unfold E24; omega)) k
        rw [show (es (n / E24)).length + 1 ≤ k + 1 ↔ (es (n / E24)).length ≤ k from by omega, this, Nat.div_lt_iff_lt_mul E24_pos, Nat.pow_succ]
/-- How many digits are left without the zeros at the end. -/
def ulen : List Nat → Nat | [] => 0 | x :: xs => if ulen xs = 0 then (if x = 0 then 0 else 1) else ulen xs + 1
theorem ulen_le (xs : List Nat) : ulen xs ≤ xs.length := by
  induction xs with
  | nil => simp [ulen]
  | cons x xs ih => simp only [ulen, List.length_cons]; split <;> (try split) <;> omega
theorem ulen_iff (xs : List Nat) (k : Nat) : ulen xs ≤ k ↔ ∀ j, k ≤ j → xs.getD j 0 = 0 := by
  induction xs generalizing k with
  | nil => simp [ulen]
  | cons x xs ih =>
    rcases k with _ | k
    · have := ih 0
      simp only [ulen]
      constructor
      · intro h j _
        by_cases h0 : ulen xs = 0
        · rw [if_pos h0] at h
          have hx : x = 0 := by by_cases q : x = 0; exact q; rw [if_neg q] at h; omega
          rcases j with _ | j
          · simpa using hx
          · simpa using (this.1 (by omega)) j (by omega)
        · rw [if_neg h0] at h; omega
      · intro h
        have h1 : ulen xs = 0 := by
          have := this.2 (fun j _ => by simpa using h (j + 1) (by omega)); omega
        have h2 : x = 0 := by simpa using h 0 (by omega)
        rw [if_pos h1, if_pos h2]; omega
    · have := ih k
      simp only [ulen]
      constructor
      · intro h j hj
        rcases j with _ | j
        · omega
        · have h1 : ulen xs ≤ k := by split at h <;> omega
          simpa using this.1 h1 j (by omega)
      · intro h
        have h1 := this.2 (fun j hj => by simpa using h (j + 1) (by omega))
        split <;> (try split) <;> omega
theorem ev_eq_zero (xs : List Nat) : ev xs = 0 ↔ ulen xs = 0 := by
  induction xs with
  | nil => simp [ev, ulen]
  | cons x xs ih =>
    rw [ev_cons]
    have := E24_pos
    simp only [ulen]
    by_cases h : ulen xs = 0
    · rw [if_pos h, ih.2 h]
      by_cases hx : x = 0 <;> simp [hx]
    · have h1 : ev xs ≠ 0 := fun q => h (ih.1 q)
      have h2 : 0 < E24 * ev xs := Nat.mul_pos E24_pos (by omega)
      rw [if_neg h]; omega
theorem trimE (xs : List Nat) (h : Eok xs) : xs.take (ulen xs) = es (ev xs) := by
  induction xs with
  | nil => simp [ev, es_zero]
  | cons x xs ih =>
    have h1 : x < E24 := h x (List.mem_cons_self ..)
    have ih := ih (fun y hy => h y (List.mem_cons_of_mem _ hy))
    rw [ev_cons]
    by_cases h0 : ulen xs = 0
    · have hz := (ev_eq_zero xs).2 h0
      simp only [ulen, if_pos h0, hz]
      by_cases hx : x = 0
      · simp [hx, es_zero]
      · rw [if_neg hx, show x + E24 * 0 = x from by simp, es_pos x hx, Nat.mod_eq_of_lt h1, Nat.div_eq_of_lt h1, es_zero]
        simp
    · have hz : ev xs ≠ 0 := fun q => h0 ((ev_eq_zero xs).1 q)
      have hp : 0 < E24 * ev xs := Nat.mul_pos E24_pos (by omega)
      simp only [ulen, if_neg h0]
      rw [es_pos (x + E24 * ev xs) (by omega), Nat.add_mul_mod_self_left, Nat.mod_eq_of_lt h1, Nat.add_mul_div_left _ _ E24_pos, Nat.div_eq_of_lt h1, Nat.zero_add, List.take_succ_cons, ih]
theorem ev_trim (xs : List Nat) (h : Eok xs) : ev (xs.take (ulen xs)) = ev xs := by rw [trimE xs h, ev_es]
theorem ulen_es (n : Nat) : ulen (es n) = (es n).length := by
  have h := trimE (es n) (eok_es n)
  rw [ev_es] at h
  have := congrArg List.length h
  rw [List.length_take] at this
  have := ulen_le (es n)
  omega
theorem E24_pow (k : Nat) : E24 ^ k = 256 ^ (3 * k) := by rw [Nat.pow_mul, show (256 : Nat) ^ 3 = E24 from by decide]
theorem es_len_bytes (l : List UInt8) : (es (bv l)).length = ((trimL l).length + 2) / 3 := by
  have h1 : ∀ k, (es (bv l)).length ≤ k ↔ (trimL l).length ≤ 3 * k := fun k => by rw [es_len, E24_pow, trim_len]
  have h2 := (h1 (es (bv l)).length).1 (Nat.le_refl _)
  rcases Nat.eq_zero_or_pos (es (bv l)).length with h0 | h0
  · omega
  · have h3 := h1 ((es (bv l)).length - 1)
    omega
theorem bv_chunk3 (l : List UInt8) (k e : Nat) (he : e = l.length - 3 * k) (hk : 3 * k ≤ l.length) : bv ((l.take e).drop (e - 3)) = bv l / 256 ^ (3 * k) % 256 ^ 3 := by
  have hl : (l.take e).length = e := by rw [List.length_take]; omega
  have h := bv_drop_mod (l.take e) 3
  rw [hl] at h
  rw [h, he, bv_take_div l (3 * k) hk]
theorem es_chunk (l : List UInt8) (k e : Nat) (he : e = (trimL l).length - 3 * k) (hk : k < (es (bv l)).length) : bv (((trimL l).take e).drop (e - 3)) = (es (bv l))[k] := by
  have h := es_len_bytes l
  rw [bv_chunk3 (trimL l) k e he (by omega), es_get, E24_pow, bv_trim, show (256 : Nat) ^ 3 = E24 from by decide]
end Go.Proofs.YtcghnkdfhiancaaDoor
