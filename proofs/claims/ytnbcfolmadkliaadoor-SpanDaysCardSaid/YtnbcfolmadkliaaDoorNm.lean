/- Plain mathematics of big-endian bytes: the value of a list of bytes, and the shortest list with a value. -/
namespace Go.Proofs.YtnbcfolmadkliaaDoor
/-- The value of bytes, the most significant one first. -/
def bv (l : List UInt8) : Nat := l.foldl (fun a b => a * 256 + b.toNat) 0
/-- The bytes of a number without zeros in front. -/
def nb (n : Nat) : List UInt8 := if _h : n = 0 then [] else nb (n / 256) ++ [UInt8.ofNat (n % 256)]
termination_by n
decreasing_by omega
def trimL (l : List UInt8) : List UInt8 := l.dropWhile (· == 0)

theorem trimL_zero (l : List UInt8) : trimL (0 :: l) = trimL l := by simp [trimL]
theorem trimL_ne (b : UInt8) (l : List UInt8) (h : ¬ b = 0) : trimL (b :: l) = b :: l := by simp [trimL, h]
theorem trimL_nil : trimL [] = [] := rfl
theorem trimL_len (l : List UInt8) : (trimL l).length ≤ l.length := by
  unfold trimL; exact (List.dropWhile_suffix _).length_le
theorem u8_zero (b : UInt8) (h : ((b.toNat : Int) == 0) = true) : b = 0 := by
  have : b.toNat = 0 := by simpa using h
  exact UInt8.toNat_inj.1 this
theorem u8_lt (b : UInt8) : b.toNat < 256 := b.toNat_lt

theorem foldl_bv (l : List UInt8) (a : Nat) : l.foldl (fun a b => a * 256 + b.toNat) a = a * 256 ^ l.length + bv l := by
  induction l generalizing a with
  | nil => simp [bv]
  | cons b l ih =>
    unfold bv
    simp only [List.foldl_cons, List.length_cons]
    rw [ih, ih (0 * 256 + b.toNat), Nat.pow_succ]
    simp only [Nat.zero_mul, Nat.zero_add, Nat.add_mul]
    rw [Nat.mul_assoc, Nat.mul_comm 256 (256 ^ l.length)]
    omega
theorem bv_nil : bv [] = 0 := rfl
theorem bv_cons (b : UInt8) (l : List UInt8) : bv (b :: l) = b.toNat * 256 ^ l.length + bv l := by
  have := foldl_bv l b.toNat
  simpa [bv] using this
theorem bv_append (l m : List UInt8) : bv (l ++ m) = bv l * 256 ^ m.length + bv m := by
  show (l ++ m).foldl (fun a b => a * 256 + b.toNat) 0 = _
  rw [List.foldl_append, foldl_bv m]
  rfl
theorem bv_snoc (l : List UInt8) (b : UInt8) : bv (l ++ [b]) = bv l * 256 + b.toNat := by
  rw [bv_append]; simp [bv]
theorem bv_lt (l : List UInt8) : bv l < 256 ^ l.length := by
  induction l with
  | nil => simp [bv]
  | cons b l ih =>
    rw [bv_cons, List.length_cons, Nat.pow_succ]
    have hb := u8_lt b
    have : b.toNat * 256 ^ l.length ≤ 255 * 256 ^ l.length := Nat.mul_le_mul_right _ (by omega)
    omega
theorem bv_trim (l : List UInt8) : bv (trimL l) = bv l := by
  induction l with
  | nil => rfl
  | cons b l ih =>
    by_cases h : b = 0
    · subst h; rw [trimL_zero, ih, bv_cons]; simp
    · rw [trimL_ne _ _ h]
theorem nb_zero : nb 0 = [] := by unfold nb; simp
theorem nb_pos (n : Nat) (h : n ≠ 0) : nb n = nb (n / 256) ++ [UInt8.ofNat (n % 256)] := by rw [nb]; simp [h]
theorem bv_nb (n : Nat) : bv (nb n) = n := by
  induction n using Nat.strongRecOn with
  | ind n ih =>
    by_cases h : n = 0
    · subst h; rw [nb_zero]; rfl
    · rw [nb_pos n h, bv_snoc, ih (n / 256) (by omega)]
      have : (UInt8.ofNat (n % 256)).toNat = n % 256 := by simp
      rw [this]; omega
/-- A number of bytes that does not begin with 0. -/
def Rt (l : List UInt8) : Prop := l = [] ∨ ∃ b m, l = b :: m ∧ ¬ b = 0
theorem rt_trim (l : List UInt8) : Rt (trimL l) := by
  induction l with
  | nil => exact .inl rfl
  | cons b l ih =>
    by_cases h : b = 0
    · subst h; rw [trimL_zero]; exact ih
    · rw [trimL_ne _ _ h]; exact .inr ⟨b, l, rfl, h⟩
theorem rt_nb (n : Nat) : Rt (nb n) := by
  induction n using Nat.strongRecOn with
  | ind n ih =>
    by_cases h : n = 0
    · subst h; rw [nb_zero]; exact .inl rfl
    · rw [nb_pos n h]
      rcases ih (n / 256) (by omega) with e | ⟨b, m, e, hb⟩
      · have h0 : n / 256 = 0 := by have := bv_nb (n / 256); rw [e] at this; exact this.symm
        refine .inr ⟨_, [], by rw [e]; rfl, ?_⟩
        intro hz
        have := congrArg UInt8.toNat hz
        simp at this
        omega
      · exact .inr ⟨b, m ++ [UInt8.ofNat (n % 256)], by rw [e]; rfl, hb⟩
theorem bv_pos (b : UInt8) (m : List UInt8) (h : ¬ b = 0) : 256 ^ m.length ≤ bv (b :: m) := by
  rw [bv_cons]
  have : 1 ≤ b.toNat := by
    rcases Nat.eq_zero_or_pos b.toNat with h0 | h0
    · exact absurd (UInt8.toNat_inj.1 h0) h
    · exact h0
  have := Nat.mul_le_mul_right (256 ^ m.length) this
  omega
theorem bv_inj (l m : List UInt8) (hl : l.length = m.length) (h : bv l = bv m) : l = m := by
  induction l generalizing m with
  | nil => cases m with
    | nil => rfl
    | cons _ _ => simp at hl
  | cons b l ih =>
    cases m with
    | nil => simp at hl
    | cons c m =>
      simp only [List.length_cons, Nat.add_right_cancel_iff] at hl
      rw [bv_cons, bv_cons, hl] at h
      have h1 := bv_lt l
      have h2 := bv_lt m
      rw [hl] at h1
      have hbc : b.toNat = c.toNat := by
        have e1 : (b.toNat * 256 ^ m.length + bv l) / 256 ^ m.length = b.toNat := by
          rw [Nat.mul_comm, Nat.mul_add_div (by omega), Nat.div_eq_of_lt h1]; omega
        have e2 : (c.toNat * 256 ^ m.length + bv m) / 256 ^ m.length = c.toNat := by
          rw [Nat.mul_comm, Nat.mul_add_div (by omega), Nat.div_eq_of_lt h2]; omega
        rw [← e1, h, e2]
      have : b = c := UInt8.toNat_inj.1 hbc
      subst this
      rw [ih m hl (by omega)]
theorem rt_len (l : List UInt8) (hr : Rt l) (k : Nat) : l.length ≤ k ↔ bv l < 256 ^ k := by
  constructor
  · intro h
    exact Nat.lt_of_lt_of_le (bv_lt l) (Nat.pow_le_pow_right (by omega) h)
  · intro h
    rcases hr with rfl | ⟨b, m, rfl, hb⟩
    · simp
    · have h1 := bv_pos b m hb
      rcases Nat.lt_or_ge m.length k with h2 | h2
      · simp only [List.length_cons]; omega
      · have := Nat.pow_le_pow_right (n := 256) (by omega) h2
        omega
theorem rt_inj (l m : List UInt8) (hl : Rt l) (hm : Rt m) (h : bv l = bv m) : l = m := by
  refine bv_inj l m ?_ h
  have a := (rt_len l hl m.length).2 (by rw [h]; exact bv_lt m)
  have b := (rt_len m hm l.length).2 (by rw [← h]; exact bv_lt l)
  omega
theorem nb_bv (l : List UInt8) : nb (bv l) = trimL l :=
  rt_inj _ _ (rt_nb _) (rt_trim l) (by rw [bv_nb, bv_trim])
theorem trim_nb (n : Nat) : trimL (nb n) = nb n := by rw [← nb_bv, bv_nb]
theorem nb_len (n k : Nat) : (nb n).length ≤ k ↔ n < 256 ^ k := by
  have := rt_len (nb n) (rt_nb n) k; rwa [bv_nb] at this
theorem trim_len (l : List UInt8) (k : Nat) : (trimL l).length ≤ k ↔ bv l < 256 ^ k := by
  have := rt_len (trimL l) (rt_trim l) k; rwa [bv_trim] at this
theorem trimL_of_nb {l : List UInt8} {n : Nat} (h : bv l = n) : trimL l = nb n := by rw [← h, nb_bv]
theorem trimL_nil_iff (l : List UInt8) : trimL l = [] ↔ bv l = 0 := by
  constructor
  · intro h; rw [← bv_trim, h]; rfl
  · intro h; rw [← nb_bv, h, nb_zero]
theorem bv_take_div (l : List UInt8) (j : Nat) (h : j ≤ l.length) : bv (l.take (l.length - j)) = bv l / 256 ^ j := by
  have e := bv_append (l.take (l.length - j)) (l.drop (l.length - j))
  have h1 := bv_lt (l.drop (l.length - j))
  have hl : (l.drop (l.length - j)).length = j := by rw [List.length_drop]; omega
  rw [List.take_append_drop, hl] at e
  rw [hl] at h1
  rw [e, Nat.mul_comm, Nat.mul_add_div (Nat.pow_pos (by omega)), Nat.div_eq_of_lt h1, Nat.add_zero]
theorem bv_drop_mod (l : List UInt8) (j : Nat) : bv (l.drop (l.length - j)) = bv l % 256 ^ j := by
  rcases Nat.lt_or_ge l.length j with h | h
  · have h1 := bv_lt l
    have h2 := Nat.pow_le_pow_right (n := 256) (by omega) (Nat.le_of_lt h)
    rw [show l.length - j = 0 from by omega, List.drop_zero, Nat.mod_eq_of_lt (by omega)]
  · have e := bv_append (l.take (l.length - j)) (l.drop (l.length - j))
    have h1 := bv_lt (l.drop (l.length - j))
    have hl : (l.drop (l.length - j)).length = j := by rw [List.length_drop]; omega
    rw [List.take_append_drop, hl] at e
    rw [hl] at h1
    rw [e, Nat.mul_comm, Nat.mul_add_mod, Nat.mod_eq_of_lt h1]
theorem bv_chunk (l : List UInt8) (k e : Nat) (he : e = l.length - 8 * k) (hk : 8 * k ≤ l.length) : bv ((l.take e).drop (e - 8)) = bv l / 256 ^ (8 * k) % 256 ^ 8 := by
  have hl : (l.take e).length = e := by rw [List.length_take]; omega
  have h := bv_drop_mod (l.take e) 8
  rw [hl] at h
  rw [h, he, bv_take_div l (8 * k) hk]
/-- The number of digits to the base 2. -/
def nbits (n : Nat) : Nat := if h : n = 0 then 0 else nbits (n / 2) + 1
termination_by n
decreasing_by omega
theorem nbits_iff (n k : Nat) : nbits n ≤ k ↔ n < 2 ^ k := by
  induction n using Nat.strongRecOn generalizing k with
  | ind n ih =>
    rw [nbits]
    by_cases h : n = 0
    · subst h; simp [Nat.two_pow_pos]
    · rw [dif_neg h]
      rcases k with _ | k
      · simp; omega
      · have := ih (n / 2) (by omega) k
        rw [Nat.pow_succ, show nbits (n / 2) + 1 ≤ k + 1 ↔ nbits (n / 2) ≤ k from by omega, this]
        omega
theorem nbits_eq (n k : Nat) (h1 : n < 2 ^ k) (h2 : k = 0 ∨ 2 ^ (k - 1) ≤ n) : nbits n = k := by
  have a := (nbits_iff n k).2 h1
  rcases h2 with h | h
  · omega
  · rcases Nat.eq_zero_or_pos k with h0 | h0
    · omega
    · have b := nbits_iff n (k - 1)
      omega
theorem nbits_zero : nbits 0 = 0 := by rw [nbits]; simp
theorem nbits_byte (b : UInt8) (l : List UInt8) (m : Nat) (h1 : b.toNat < 2 ^ m) (h2 : 2 ^ (m - 1) ≤ b.toNat) (hm : 1 ≤ m) : nbits (bv (b :: l)) = 8 * l.length + m := by
  have hl := bv_lt l
  have e : (256 : Nat) ^ l.length = 2 ^ (8 * l.length) := by rw [Nat.pow_mul]
  rw [bv_cons, e]
  rw [e] at hl
  apply nbits_eq
  · have := Nat.mul_le_mul_right (2 ^ (8 * l.length)) (show b.toNat + 1 ≤ 2 ^ m from h1)
    rw [← Nat.pow_add, Nat.add_mul, Nat.add_comm m] at this
    omega
  · right
    rw [show 8 * l.length + m - 1 = (m - 1) + 8 * l.length from by omega, Nat.pow_add]
    have := Nat.mul_le_mul_right (2 ^ (8 * l.length)) h2
    omega
end Go.Proofs.YtnbcfolmadkliaaDoor
