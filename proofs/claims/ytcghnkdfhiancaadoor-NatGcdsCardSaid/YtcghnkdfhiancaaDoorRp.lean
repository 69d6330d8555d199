/- Plain mathematics of primes: a number with a generator of all its rests is prime, and Fermat's little theorem holds for it; the prime number 2305843009213691579. -/
namespace Go.Proofs.YtcghnkdfhiancaaDoor
/-- A prime number. -/
def Pri (p : Nat) : Prop := 1 < p ∧ ∀ d, d ∣ p → d = 1 ∨ d = p
/-- The power of b with exponent e modulo m, with as many squarings as told. -/
def pm (b m : Nat) : Nat → Nat → Nat
  | 0, _ => 1 % m
  | k + 1, e => if e = 0 then 1 % m else let h := pm b m k (e / 2); if e % 2 = 1 then h * h % m * b % m else h * h % m
theorem pm_eq (b m k e : Nat) (h : e < 2 ^ k) : pm b m k e = b ^ e % m := by
  induction k generalizing e with
  | zero =>
    have : e = 0 := by simp at h; exact h
    subst this
    rfl
  | succ k ih =>
    unfold pm
    by_cases h0 : e = 0
    · subst h0; rw [if_pos rfl, Nat.pow_zero]
    · rw [if_neg h0]
      have hk := ih (e / 2) (by rw [Nat.pow_succ] at h; omega)
      simp only [hk]
      have hh : (b ^ (e / 2) % m) * (b ^ (e / 2) % m) % m = b ^ (2 * (e / 2)) % m := by
        rw [← Nat.mul_mod, ← Nat.pow_add]; congr 2; omega
      by_cases h1 : e % 2 = 1
      · rw [if_pos h1, hh, Nat.mod_mul_mod, ← Nat.pow_succ]
        congr 2; omega
      · rw [if_neg h1, hh]
        congr 2; omega
theorem pigeon (n : Nat) (f : Nat → Nat) (hin : ∀ i, i < n → f i < n) (hinj : ∀ i j, i < n → j < n → f i = f j → i = j) : ∀ a, a < n → ∃ i, i < n ∧ f i = a := by
  induction n generalizing f with
  | zero => intro a ha; omega
  | succ n ih =>
    have hm := hin n (by omega)
    have h1 : ∀ i, i < n → (if f i = n then f n else f i) < n := fun i hi => by
      by_cases h : f i = n
      · rw [if_pos h]
        have : f n ≠ n := fun e => by have := hinj i n (by omega) (by omega) (by rw [h, e]); omega
        omega
      · rw [if_neg h]
        have := hin i (by omega)
        omega
    have h2 : ∀ i j, i < n → j < n → (if f i = n then f n else f i) = (if f j = n then f n else f j) → i = j := fun i j hi hj h => by
      by_cases a1 : f i = n
      · by_cases a2 : f j = n
        · exact hinj i j (by omega) (by omega) (by rw [a1, a2])
        · rw [if_pos a1, if_neg a2] at h
          have := hinj n j (by omega) (by omega) h
          omega
      · by_cases a2 : f j = n
        · rw [if_neg a1, if_pos a2] at h
          have := hinj i n (by omega) (by omega) h
          omega
        · rw [if_neg a1, if_neg a2] at h
          exact hinj i j (by omega) (by omega) h
    have key := ih (fun i => if f i = n then f n else f i) h1 h2
    intro a ha
    by_cases e1 : a = f n
    · exact ⟨n, by omega, e1.symm⟩
    · by_cases e2 : a = n
      · obtain ⟨i, hi, he⟩ := key (f n) (by omega)
        skip
        by_cases h : f i = n
        · exact ⟨i, by omega, by omega⟩
        · rw [if_neg h] at he
          have := hinj i n (by omega) (by omega) he
          omega
      · obtain ⟨i, hi, he⟩ := key a (by omega)
        skip
        by_cases h : f i = n
        · rw [if_pos h] at he; omega
        · rw [if_neg h] at he
          exact ⟨i, by omega, he⟩
/-- Each number greater than 1 has a prime divisor. -/
theorem prime_div (n : Nat) (h : 1 < n) : ∃ q, Pri q ∧ q ∣ n := by
  induction n using Nat.strongRecOn with
  | ind n ih =>
    by_cases hp : Pri n
    · exact ⟨n, hp, Nat.dvd_refl n⟩
    · have : ∃ d, d ∣ n ∧ d ≠ 1 ∧ d ≠ n := by
        refine Classical.byContradiction fun hc => hp ⟨h, fun d hd => ?_⟩
        refine Classical.byContradiction fun hn => hc ⟨d, hd, fun e => hn (.inl e), fun e => hn (.inr e)⟩
      obtain ⟨d, hd, h1, h2⟩ := this
      have hle := Nat.le_of_dvd (by omega) hd
      have h0 : d ≠ 0 := fun e => by subst e; have := Nat.eq_zero_of_zero_dvd hd; omega
      obtain ⟨q, hq, hqd⟩ := ih d (by omega) (by omega)
      exact ⟨q, hq, Nat.dvd_trans hqd hd⟩
theorem pri_mul {q a b : Nat} (h : Pri q) (hd : q ∣ a * b) : q ∣ a ∨ q ∣ b := by
  rcases h.2 (Nat.gcd q a) (Nat.gcd_dvd_left q a) with e | e
  · exact .inr (Nat.Coprime.dvd_of_dvd_mul_left e hd)
  · left; rw [← e]; exact Nat.gcd_dvd_right q a
theorem pri_prod {q : Nat} (h : Pri q) (l : List Nat) (hd : q ∣ l.foldr (· * ·) 1) : ∃ r, r ∈ l ∧ q ∣ r := by
  induction l with
  | nil => simp at hd; have := h.1; omega
  | cons a l ih =>
    rw [List.foldr_cons] at hd
    rcases pri_mul h hd with e | e
    · exact ⟨a, List.mem_cons_self .., e⟩
    · obtain ⟨r, hr, hd⟩ := ih e
      exact ⟨r, List.mem_cons_of_mem _ hr, hd⟩
theorem one_pow_mod (x p k : Nat) (h : x % p = 1) : x ^ k % p = 1 % p := by
  rw [Nat.pow_mod, h, Nat.one_pow]
theorem gen_free (p g : Nat) (hp : 1 < p) (qs : List Nat) (hq : ∀ q ∈ qs, Pri q) (hn : p - 1 = qs.foldr (· * ·) 1) (h1 : g ^ (p - 1) % p = 1) (h2 : ∀ q ∈ qs, g ^ ((p - 1) / q) % p ≠ 1) :
    ∀ k, 0 < k → k < p - 1 → g ^ k % p ≠ 1 := by
  have h1p : 1 % p = 1 := Nat.mod_eq_of_lt hp
  -- the least exponent
  have hex : ∃ d, 0 < d ∧ g ^ d % p = 1 ∧ ∀ k, 0 < k → k < d → g ^ k % p ≠ 1 := by
    have : ∀ n, (0 < n ∧ g ^ n % p = 1) → ∃ d, 0 < d ∧ g ^ d % p = 1 ∧ ∀ k, 0 < k → k < d → g ^ k % p ≠ 1 := by
      intro n
      induction n using Nat.strongRecOn with
      | ind n ih =>
        intro hn
        by_cases hc : ∃ k, 0 < k ∧ k < n ∧ g ^ k % p = 1
        · obtain ⟨k, a, b, c⟩ := hc
          exact ih k b ⟨a, c⟩
        · exact ⟨n, hn.1, hn.2, fun k a b c => hc ⟨k, a, b, c⟩⟩
    exact this (p - 1) ⟨by omega, h1⟩
  obtain ⟨d, hd0, hd1, hmin⟩ := hex
  have hdiv : d ∣ p - 1 := by
    refine Nat.dvd_of_mod_eq_zero ?_
    refine Classical.byContradiction fun hr => ?_
    have hlt := Nat.mod_lt (p - 1) hd0
    refine hmin ((p - 1) % d) (by omega) hlt ?_
    have e : g ^ (p - 1) = (g ^ d) ^ ((p - 1) / d) * g ^ ((p - 1) % d) := by
      rw [← Nat.pow_mul, ← Nat.pow_add, Nat.div_add_mod]
    rw [e, Nat.mul_mod, one_pow_mod _ _ _ hd1, ← Nat.mul_mod, Nat.one_mul] at h1
    exact h1
  by_cases hlt : d < p - 1
  · exfalso
    obtain ⟨k, hk⟩ := hdiv
    have hk1 : 1 < k := by
      rcases k with _ | _ | k
      · omega
      · omega
      · omega
    obtain ⟨q, hqp, hqk⟩ := prime_div k hk1
    have hqn : q ∣ qs.foldr (· * ·) 1 := by rw [← hn, hk]; exact Nat.dvd_trans hqk (Nat.dvd_mul_left _ _)
    obtain ⟨r, hr, hqr⟩ := pri_prod hqp qs hqn
    have hqe : q = r := by
      rcases (hq r hr).2 q hqr with e | e
      · have := hqp.1; omega
      · exact e
    subst hqe
    obtain ⟨j, hj⟩ := hqk
    refine h2 q hr ?_
    have e : (p - 1) / q = d * j := by
      rw [hk, hj]
      have := hqp.1
      rw [show d * (q * j) = q * (d * j) from by rw [Nat.mul_left_comm], Nat.mul_div_cancel_left _ (by omega)]
    rw [e, Nat.pow_mul, one_pow_mod _ _ _ hd1, h1p]
  · have : d = p - 1 := by
      have := Nat.le_of_dvd (by omega) hdiv
      omega
    subst this
    exact hmin
theorem gen_all (p g : Nat) (hp : 1 < p) (h1 : g ^ (p - 1) % p = 1) (h2 : ∀ k, 0 < k → k < p - 1 → g ^ k % p ≠ 1) : ∀ a, a % p ≠ 0 → ∃ k, g ^ k % p = a % p := by
  have h1p : 1 % p = 1 := Nat.mod_eq_of_lt hp
  have hinv : ∀ i, i ≤ p - 1 → g ^ i * g ^ (p - 1 - i) % p = 1 := fun i hi => by
    rw [← Nat.pow_add, show i + (p - 1 - i) = p - 1 from by omega, h1]
  have hnz : ∀ i, i ≤ p - 1 → g ^ i % p ≠ 0 := fun i hi e => by
    have := hinv i hi
    rw [Nat.mul_mod, e, Nat.zero_mul, Nat.zero_mod] at this
    omega
  have hdist : ∀ i j, i < j → j < p - 1 → g ^ i % p = g ^ j % p → False := fun i j hij hj e => by
    refine h2 (j - i) (by omega) (by omega) ?_
    have a1 : g ^ j * g ^ (p - 1 - i) % p = g ^ i * g ^ (p - 1 - i) % p := by rw [Nat.mul_mod, ← e, ← Nat.mul_mod]
    rw [hinv i (by omega), ← Nat.pow_add, show j + (p - 1 - i) = (p - 1) + (j - i) from by omega, Nat.pow_add, Nat.mul_mod, h1, Nat.one_mul, Nat.mod_mod] at a1
    exact a1
  intro a ha
  have hap := Nat.mod_lt a (show 0 < p by omega)
  obtain ⟨i, hi, he⟩ := pigeon (p - 1) (fun i => g ^ i % p - 1) (fun i hi => by
      have := Nat.mod_lt (g ^ i) (show 0 < p by omega)
      have := hnz i (by omega)
      skip
      omega) (fun i j hi hj e => by
      have a1 := hnz i (by omega)
      have a2 := hnz j (by omega)
      skip
      have e2 : g ^ i % p = g ^ j % p := by omega
      rcases Nat.lt_trichotomy i j with h | h | h
      · exact (hdist i j h hj e2).elim
      · exact h
      · exact (hdist j i h hi e2.symm).elim) (a % p - 1) (by omega)
  have := hnz i (by omega)
  skip
  exact ⟨i, by omega⟩
theorem fermat_gen (p g : Nat) (h1 : g ^ (p - 1) % p = 1) (hp : 1 < p) (hall : ∀ a, a % p ≠ 0 → ∃ k, g ^ k % p = a % p) (a : Nat) (ha : a % p ≠ 0) : a ^ (p - 1) % p = 1 := by
  obtain ⟨k, hk⟩ := hall a ha
  rw [Nat.pow_mod, ← hk, ← Nat.pow_mod, ← Nat.pow_mul, Nat.mul_comm, Nat.pow_mul, one_pow_mod _ _ _ h1, Nat.mod_eq_of_lt hp]
theorem pri_gen (p g : Nat) (hp : 1 < p) (h1 : g ^ (p - 1) % p = 1) (hall : ∀ a, a % p ≠ 0 → ∃ k, g ^ k % p = a % p) : Pri p := by
  refine ⟨hp, fun d hd => ?_⟩
  have hle := Nat.le_of_dvd (by omega) hd
  rcases Nat.lt_or_ge d p with h | h
  · left
    have h0 : d ≠ 0 := fun e => by subst e; have := Nat.eq_zero_of_zero_dvd hd; omega
    have hf := fermat_gen p g h1 hp hall d (by rw [Nat.mod_eq_of_lt h]; exact h0)
    have e : d ∣ d ^ (p - 1) := ⟨d ^ (p - 2), by rw [← Nat.pow_succ']; congr 1; omega⟩
    have h3 : d ∣ d ^ (p - 1) % p := (Nat.dvd_mod_iff hd).2 e
    rw [hf] at h3
    exact Nat.dvd_one.1 h3
  · right; omega
/-- One row of a proof that a number is prime. -/
theorem pratt (p g k : Nat) (qs : List Nat) (hp : 1 < p) (hk : p - 1 < 2 ^ k) (hq : ∀ q ∈ qs, Pri q) (hn : p - 1 = qs.foldr (· * ·) 1) (h1 : pm g p k (p - 1) = 1) (h2 : (qs.all fun q => pm g p k ((p - 1) / q) != 1) = true) :
    Pri p ∧ ∀ a, a % p ≠ 0 → a ^ (p - 1) % p = 1 := by
  rw [pm_eq _ _ _ _ hk] at h1
  have h3 : ∀ q ∈ qs, g ^ ((p - 1) / q) % p ≠ 1 := fun q hqm => by
    have := List.all_eq_true.1 h2 q hqm
    rw [pm_eq _ _ _ _ (Nat.lt_of_le_of_lt (Nat.div_le_self _ _) hk)] at this
    simpa using this
  have hall := gen_all p g hp h1 (gen_free p g hp qs hq hn h1 h3)
  exact ⟨pri_gen p g hp h1 hall, fermat_gen p g h1 hp hall⟩
theorem all_nil : ∀ q ∈ ([] : List Nat), Pri q := fun q h => by simp at h
theorem all_cons {a : Nat} {l : List Nat} (h : Pri a) (k : ∀ q ∈ l, Pri q) : ∀ q ∈ a :: l, Pri q := fun q hq => by
  rcases List.mem_cons.1 hq with e | e
  · subst e; exact h
  · exact k q e
theorem pri_2 : Pri 2 := ⟨by omega, fun d hd => by have h1 := Nat.le_of_dvd (by omega) hd; have h0 : d ≠ 0 := fun e => by { subst e; have := Nat.eq_zero_of_zero_dvd hd; omega }; omega⟩
theorem pri_3 : Pri 3 := (pratt 3 2 2 [2] (by decide) (by decide) (all_cons pri_2 all_nil) (by decide) (by decide +kernel) (by decide +kernel)).1
theorem pri_5 : Pri 5 := (pratt 5 2 3 [2, 2] (by decide) (by decide) (all_cons pri_2 (all_cons pri_2 all_nil)) (by decide) (by decide +kernel) (by decide +kernel)).1
theorem pri_751 : Pri 751 := (pratt 751 3 10 [2, 3, 5, 5, 5] (by decide) (by decide) (all_cons pri_2 (all_cons pri_3 (all_cons pri_5 (all_cons pri_5 (all_cons pri_5 all_nil))))) (by decide) (by decide +kernel) (by decide +kernel)).1
theorem pri_11 : Pri 11 := (pratt 11 2 4 [2, 5] (by decide) (by decide) (all_cons pri_2 (all_cons pri_5 all_nil)) (by decide) (by decide +kernel) (by decide +kernel)).1
theorem pri_1409 : Pri 1409 := (pratt 1409 3 11 [2, 2, 2, 2, 2, 2, 2, 11] (by decide) (by decide) (all_cons pri_2 (all_cons pri_2 (all_cons pri_2 (all_cons pri_2 (all_cons pri_2 (all_cons pri_2 (all_cons pri_2 (all_cons pri_11 all_nil)))))))) (by decide) (by decide +kernel) (by decide +kernel)).1
theorem pri_2819 : Pri 2819 := (pratt 2819 2 12 [2, 1409] (by decide) (by decide) (all_cons pri_2 (all_cons pri_1409 all_nil)) (by decide) (by decide +kernel) (by decide +kernel)).1
theorem pri_5639 : Pri 5639 := (pratt 5639 7 13 [2, 2819] (by decide) (by decide) (all_cons pri_2 (all_cons pri_2819 all_nil)) (by decide) (by decide +kernel) (by decide +kernel)).1
theorem pri_8469779 : Pri 8469779 := (pratt 8469779 2 24 [2, 751, 5639] (by decide) (by decide) (all_cons pri_2 (all_cons pri_751 (all_cons pri_5639 all_nil))) (by decide) (by decide +kernel) (by decide +kernel)).1
theorem pri_7 : Pri 7 := (pratt 7 3 3 [2, 3] (by decide) (by decide) (all_cons pri_2 (all_cons pri_3 all_nil)) (by decide) (by decide +kernel) (by decide +kernel)).1
theorem pri_19 : Pri 19 := (pratt 19 2 5 [2, 3, 3] (by decide) (by decide) (all_cons pri_2 (all_cons pri_3 (all_cons pri_3 all_nil))) (by decide) (by decide +kernel) (by decide +kernel)).1
theorem pri_13 : Pri 13 := (pratt 13 2 4 [2, 2, 3] (by decide) (by decide) (all_cons pri_2 (all_cons pri_2 (all_cons pri_3 all_nil))) (by decide) (by decide +kernel) (by decide +kernel)).1
theorem pri_53 : Pri 53 := (pratt 53 2 6 [2, 2, 13] (by decide) (by decide) (all_cons pri_2 (all_cons pri_2 (all_cons pri_13 all_nil))) (by decide) (by decide +kernel) (by decide +kernel)).1
theorem pri_449 : Pri 449 := (pratt 449 3 9 [2, 2, 2, 2, 2, 2, 7] (by decide) (by decide) (all_cons pri_2 (all_cons pri_2 (all_cons pri_2 (all_cons pri_2 (all_cons pri_2 (all_cons pri_2 (all_cons pri_7 all_nil))))))) (by decide) (by decide +kernel) (by decide +kernel)).1
theorem pri_95189 : Pri 95189 := (pratt 95189 2 17 [2, 2, 53, 449] (by decide) (by decide) (all_cons pri_2 (all_cons pri_2 (all_cons pri_53 (all_cons pri_449 all_nil)))) (by decide) (by decide +kernel) (by decide +kernel)).1
theorem pri_2835870689 : Pri 2835870689 := (pratt 2835870689 6 32 [2, 2, 2, 2, 2, 7, 7, 19, 95189] (by decide) (by decide) (all_cons pri_2 (all_cons pri_2 (all_cons pri_2 (all_cons pri_2 (all_cons pri_2 (all_cons pri_7 (all_cons pri_7 (all_cons pri_19 (all_cons pri_95189 all_nil))))))))) (by decide) (by decide +kernel) (by decide +kernel)).1
theorem pri_5671741379 : Pri 5671741379 := (pratt 5671741379 2 33 [2, 2835870689] (by decide) (by decide) (all_cons pri_2 (all_cons pri_2835870689 all_nil)) (by decide) (by decide +kernel) (by decide +kernel)).1
theorem pri_288230376151711447 : Pri 288230376151711447 := (pratt 288230376151711447 6 58 [2, 3, 8469779, 5671741379] (by decide) (by decide) (all_cons pri_2 (all_cons pri_3 (all_cons pri_8469779 (all_cons pri_5671741379 all_nil)))) (by decide) (by decide +kernel) (by decide +kernel)).1
theorem pri_1152921504606845789 : Pri 1152921504606845789 := (pratt 1152921504606845789 2 60 [2, 2, 288230376151711447] (by decide) (by decide) (all_cons pri_2 (all_cons pri_2 (all_cons pri_288230376151711447 all_nil))) (by decide) (by decide +kernel) (by decide +kernel)).1
theorem fermat_large (p : Nat) (hp : p = 2305843009213691579) : ∀ a, a % p ≠ 0 → a ^ (p - 1) % p = 1 := by
  subst hp
  exact (pratt 2305843009213691579 2 61 [2, 1152921504606845789] (by decide) (by decide) (all_cons pri_2 (all_cons pri_1152921504606845789 all_nil)) (by decide) (by decide +kernel) (by decide +kernel)).2
end Go.Proofs.YtcghnkdfhiancaaDoor
