/- Contracts of packages nat and tithingref01, joined out of smaller texts. -/
import Derived.Test.YtkeomlpecjjhiaaGreatDoorRows
import Derived.WalkKit
import Derived.WalkSpells
import Derived.WalkLawsBesides
import Derived.Lib.Hide
import Derived.Deep.Draws
import Derived.Laws.BytesArg
import Derived.Test.YtkeomlpecjjhiaaGreatDoorShelf
import Derived.Deep.QuietTactic
import Derived.BigQuiet
import Derived.StillTailTactics
import Derived.Shelf.Spec.BitsCarry
import Derived.Deep.DeepCutAuto
import Derived.Deep.CutBlock
import Derived.Lib.SliceRun
import Derived.Deep.RegionWith
namespace Go.Proofs.YtkeomlpecjjhiaaGreatDoor
/-- The value of bytes, the most significant one first. -/
def bv (l : List UInt8) : Nat := l.foldl (fun a b => a * 256 + b.toNat) 0
/-- The bytes of a number without zeros in front. -/
def nb (n : Nat) : List UInt8 := if _h : n = 0 then [] else nb (n / 256) ++ [UInt8.ofNat (n % 256)]
termination_by n
decreasing_by omega
def trimL (l : List UInt8) : List UInt8 := l.dropWhile (· == 0)

theorem trimL_zero (l : List UInt8) : trimL (0 :: l) = trimL l := by simp [trimL]
theorem trimL_ne (b : UInt8) (l : List UInt8) (h : ¬ b = 0) : trimL (b :: l) = b :: l := by simp [trimL, h]
theorem trimL_len (l : List UInt8) : (trimL l).length ≤ l.length := by
 unfold trimL; exact (List.dropWhile_suffix _).length_le
theorem u8_zero (b : UInt8) (h : ((b.toNat : Int) == 0) = true) : b = 0 := by
 have : b.toNat = 0 := by simpa using h
 exact UInt8.toNat_inj.1 this
theorem u8_lt (b : UInt8) : b.toNat < 256 := b.toNat_lt

theorem foldl_bv (l : List UInt8) (a : Nat) : l.foldl (fun a b => a * 256 + b.toNat) a = a * 256 ^ l.length + bv l := by
 induction l generalizing a with
 | nil => simp [bv]
 | cons b l ih =>
  unfold bv
  simp only [List.foldl_cons, List.length_cons]
  rw [ih, ih (0 * 256 + b.toNat), Nat.pow_succ]
  simp only [Nat.zero_mul, Nat.zero_add, Nat.add_mul]
  rw [Nat.mul_assoc, Nat.mul_comm 256 (256 ^ l.length)]
  omega
theorem bv_nil : bv [] = 0 := rfl
theorem bv_cons (b : UInt8) (l : List UInt8) : bv (b :: l) = b.toNat * 256 ^ l.length + bv l := by
 have := foldl_bv l b.toNat
 simpa [bv] using this
theorem bv_append (l m : List UInt8) : bv (l ++ m) = bv l * 256 ^ m.length + bv m := by
 show (l ++ m).foldl (fun a b => a * 256 + b.toNat) 0 = _
 rw [List.foldl_append, foldl_bv m]
 rfl
theorem bv_snoc (l : List UInt8) (b : UInt8) : bv (l ++ [b]) = bv l * 256 + b.toNat := by
 rw [bv_append]; simp [bv]
theorem bv_lt (l : List UInt8) : bv l < 256 ^ l.length := by
 induction l with
 | nil => simp [bv]
 | cons b l ih =>
  rw [bv_cons, List.length_cons, Nat.pow_succ]
  have hb := u8_lt b
  have : b.toNat * 256 ^ l.length ≤ 255 * 256 ^ l.length := Nat.mul_le_mul_right _ (by omega)
  omega
theorem bv_trim (l : List UInt8) : bv (trimL l) = bv l := by
 induction l with
 | nil => rfl
 | cons b l ih =>
  by_cases h : b = 0
  ·subst h; rw [trimL_zero, ih, bv_cons]; simp
  ·rw [trimL_ne _ _ h]
theorem nb_zero : nb 0 = [] := by unfold nb; simp
theorem nb_pos (n : Nat) (h : n ≠ 0) : nb n = nb (n / 256) ++ [UInt8.ofNat (n % 256)] := by rw [nb]; simp [h]
theorem bv_nb (n : Nat) : bv (nb n) = n := by
 induction n using Nat.strongRecOn with
 | ind n ih =>
  by_cases h : n = 0
  ·subst h; rw [nb_zero]; rfl
  ·rw [nb_pos n h, bv_snoc, ih (n / 256) (by omega)]
   have : (UInt8.ofNat (n % 256)).toNat = n % 256 := by simp
   rw [this]; omega
/-- A number of bytes that does not begin with 0. -/
def Rt (l : List UInt8) : Prop := l = [] ∨ ∃ b m, l = b :: m ∧ ¬ b = 0
theorem rt_trim (l : List UInt8) : Rt (trimL l) := by
 induction l with
 | nil => exact .inl rfl
 | cons b l ih =>
  by_cases h : b = 0
  ·subst h; rw [trimL_zero]; exact ih
  ·rw [trimL_ne _ _ h]; exact .inr ⟨b, l, rfl, h⟩
theorem rt_nb (n : Nat) : Rt (nb n) := by
 induction n using Nat.strongRecOn with
 | ind n ih =>
  by_cases h : n = 0
  ·subst h; rw [nb_zero]; exact .inl rfl
  ·rw [nb_pos n h]
   rcases ih (n / 256) (by omega) with e | ⟨b, m, e, hb⟩
   ·have h0 : n / 256 = 0 := by have := bv_nb (n / 256); rw [e] at this; exact this.symm
    refine .inr ⟨_, [], by rw [e]; rfl, ?_⟩
    intro hz
    have := congrArg UInt8.toNat hz
    simp at this
    omega
   ·exact .inr ⟨b, m ++ [UInt8.ofNat (n % 256)], by rw [e]; rfl, hb⟩
theorem bv_pos (b : UInt8) (m : List UInt8) (h : ¬ b = 0) : 256 ^ m.length ≤ bv (b :: m) := by
 rw [bv_cons]
 have : 1 ≤ b.toNat := by
  rcases Nat.eq_zero_or_pos b.toNat with h0 | h0
  ·exact absurd (UInt8.toNat_inj.1 h0) h
  ·exact h0
 have := Nat.mul_le_mul_right (256 ^ m.length) this
 omega
theorem bv_inj (l m : List UInt8) (hl : l.length = m.length) (h : bv l = bv m) : l = m := by
 induction l generalizing m with
 | nil => cases m with
  | nil => rfl
  | cons _ _ => simp at hl
 | cons b l ih =>
  cases m with
  | nil => simp at hl
  | cons c m =>
   simp only [List.length_cons, Nat.add_right_cancel_iff] at hl
   rw [bv_cons, bv_cons, hl] at h
   have h1 := bv_lt l
   have h2 := bv_lt m
   rw [hl] at h1
   have hbc : b.toNat = c.toNat := by
    have e1 : (b.toNat * 256 ^ m.length + bv l) / 256 ^ m.length = b.toNat := by
     rw [Nat.mul_comm, Nat.mul_add_div (by omega), Nat.div_eq_of_lt h1]; omega
    have e2 : (c.toNat * 256 ^ m.length + bv m) / 256 ^ m.length = c.toNat := by
     rw [Nat.mul_comm, Nat.mul_add_div (by omega), Nat.div_eq_of_lt h2]; omega
    rw [← e1, h, e2]
   have : b = c := UInt8.toNat_inj.1 hbc
   subst this
   rw [ih m hl (by omega)]
theorem rt_len (l : List UInt8) (hr : Rt l) (k : Nat) : l.length ≤ k ↔ bv l < 256 ^ k := by
 constructor
 ·intro h
  exact Nat.lt_of_lt_of_le (bv_lt l) (Nat.pow_le_pow_right (by omega) h)
 ·intro h
  rcases hr with rfl | ⟨b, m, rfl, hb⟩
  ·simp
  ·have h1 := bv_pos b m hb
   rcases Nat.lt_or_ge m.length k with h2 | h2
   ·simp only [List.length_cons]; omega
   ·have := Nat.pow_le_pow_right (n := 256) (by omega) h2
    omega
theorem rt_inj (l m : List UInt8) (hl : Rt l) (hm : Rt m) (h : bv l = bv m) : l = m := by
 refine bv_inj l m ?_ h
 have a := (rt_len l hl m.length).2 (by rw [h]; exact bv_lt m)
 have b := (rt_len m hm l.length).2 (by rw [← h]; exact bv_lt l)
 omega
theorem nb_bv (l : List UInt8) : nb (bv l) = trimL l :=
 rt_inj _ _ (rt_nb _) (rt_trim l) (by rw [bv_nb, bv_trim])
theorem nb_len (n k : Nat) : (nb n).length ≤ k ↔ n < 256 ^ k := by
 have := rt_len (nb n) (rt_nb n) k; rwa [bv_nb] at this
theorem trim_len (l : List UInt8) (k : Nat) : (trimL l).length ≤ k ↔ bv l < 256 ^ k := by
 have := rt_len (trimL l) (rt_trim l) k; rwa [bv_trim] at this
theorem trimL_of_nb {l : List UInt8} {n : Nat} (h : bv l = n) : trimL l = nb n := by rw [← h, nb_bv]
theorem trimL_nil_iff (l : List UInt8) : trimL l = [] ↔ bv l = 0 := by
 constructor
 ·intro h; rw [← bv_trim, h]; rfl
 ·intro h; rw [← nb_bv, h, nb_zero]
theorem bv_take_div (l : List UInt8) (j : Nat) (h : j ≤ l.length) : bv (l.take (l.length - j)) = bv l / 256 ^ j := by
 have e := bv_append (l.take (l.length - j)) (l.drop (l.length - j))
 have h1 := bv_lt (l.drop (l.length - j))
 have hl : (l.drop (l.length - j)).length = j := by rw [List.length_drop]; omega
 rw [List.take_append_drop, hl] at e
 rw [hl] at h1
 rw [e, Nat.mul_comm, Nat.mul_add_div (Nat.pow_pos (by omega)), Nat.div_eq_of_lt h1, Nat.add_zero]
theorem bv_drop_mod (l : List UInt8) (j : Nat) : bv (l.drop (l.length - j)) = bv l % 256 ^ j := by
 rcases Nat.lt_or_ge l.length j with h | h
 ·have h1 := bv_lt l
  have h2 := Nat.pow_le_pow_right (n := 256) (by omega) (Nat.le_of_lt h)
  rw [show l.length - j = 0 from by omega, List.drop_zero, Nat.mod_eq_of_lt (by omega)]
 ·have e := bv_append (l.take (l.length - j)) (l.drop (l.length - j))
  have h1 := bv_lt (l.drop (l.length - j))
  have hl : (l.drop (l.length - j)).length = j := by rw [List.length_drop]; omega
  rw [List.take_append_drop, hl] at e
  rw [hl] at h1
  rw [e, Nat.mul_comm, Nat.mul_add_mod, Nat.mod_eq_of_lt h1]
theorem bv_chunk (l : List UInt8) (k e : Nat) (he : e = l.length - 8 * k) (hk : 8 * k ≤ l.length) : bv ((l.take e).drop (e - 8)) = bv l / 256 ^ (8 * k) % 256 ^ 8 := by
 have hl : (l.take e).length = e := by rw [List.length_take]; omega
 have h := bv_drop_mod (l.take e) 8
 rw [hl] at h
 rw [h, he, bv_take_div l (8 * k) hk]
/-- The number of digits to the base 2. -/
def nbits (n : Nat) : Nat := if h : n = 0 then 0 else nbits (n / 2) + 1
termination_by n
decreasing_by omega
theorem nbits_iff (n k : Nat) : nbits n ≤ k ↔ n < 2 ^ k := by
 induction n using Nat.strongRecOn generalizing k with
 | ind n ih =>
  rw [nbits]
  by_cases h : n = 0
  ·subst h; simp [Nat.two_pow_pos]
  ·rw [dif_neg h]
   rcases k with _ | k
   ·simp; omega
   ·have := ih (n / 2) (by omega) k
    rw [Nat.pow_succ, show nbits (n / 2) + 1 ≤ k + 1 ↔ nbits (n / 2) ≤ k from by omega, this]
    omega
theorem nbits_eq (n k : Nat) (h1 : n < 2 ^ k) (h2 : k = 0 ∨ 2 ^ (k - 1) ≤ n) : nbits n = k := by
 have a := (nbits_iff n k).2 h1
 rcases h2 with h | h
 ·omega
 ·rcases Nat.eq_zero_or_pos k with h0 | h0
  ·omega
  ·have b := nbits_iff n (k - 1)
   omega
theorem nbits_zero : nbits 0 = 0 := by rw [nbits]; simp
theorem nbits_byte (b : UInt8) (l : List UInt8) (m : Nat) (h1 : b.toNat < 2 ^ m) (h2 : 2 ^ (m - 1) ≤ b.toNat) (hm : 1 ≤ m) : nbits (bv (b :: l)) = 8 * l.length + m := by
 have hl := bv_lt l
 have e : (256 : Nat) ^ l.length = 2 ^ (8 * l.length) := by rw [Nat.pow_mul]
 rw [bv_cons, e]
 rw [e] at hl
 apply nbits_eq
 ·have := Nat.mul_le_mul_right (2 ^ (8 * l.length)) (show b.toNat + 1 ≤ 2 ^ m from h1)
  rw [← Nat.pow_add, Nat.add_mul, Nat.add_comm m] at this
  omega
 ·right
  rw [show 8 * l.length + m - 1 = (m - 1) + 8 * l.length from by omega, Nat.pow_add]
  have := Nat.mul_le_mul_right (2 ^ (8 * l.length)) h2
  omega
end Go.Proofs.YtkeomlpecjjhiaaGreatDoor
namespace Go.Proofs.YtkeomlpecjjhiaaGreatDoor
/-- The base of digits. -/
def D : Nat := 18446744073709551616
theorem D_pos : 0 < D := by unfold D; omega
/-- The value of digits, the least significant one first. -/
def dv : List Nat → Nat | [] => 0 | x :: xs => x + D * dv xs
def Dok (xs : List Nat) : Prop := ∀ x ∈ xs, x < D
theorem Dok.nil : Dok [] := fun _ h => by simp at h
theorem Dok.cons {x : Nat} {xs : List Nat} (h : x < D) (k : Dok xs) : Dok (x :: xs) := fun y hy => by
 rcases List.mem_cons.1 hy with rfl | q
 ·exact h
 ·exact k y q
theorem Dok.append {xs ys : List Nat} (h : Dok xs) (k : Dok ys) : Dok (xs ++ ys) := fun y hy => by
 rcases List.mem_append.1 hy with q | q
 ·exact h y q
 ·exact k y q
theorem Dok.left {xs ys : List Nat} (h : Dok (xs ++ ys)) : Dok xs := fun y hy => h y (List.mem_append_left _ hy)
theorem Dok.right {xs ys : List Nat} (h : Dok (xs ++ ys)) : Dok ys := fun y hy => h y (List.mem_append_right _ hy)
theorem Dok.take {xs : List Nat} (h : Dok xs) (k : Nat) : Dok (xs.take k) := fun y hy => h y (List.mem_of_mem_take hy)
theorem Dok.drop {xs : List Nat} (h : Dok xs) (k : Nat) : Dok (xs.drop k) := fun y hy => h y (List.mem_of_mem_drop hy)
theorem Dok.get {xs : List Nat} (h : Dok xs) (k : Nat) (hk : k < xs.length) : xs[k] < D := h _ (List.getElem_mem hk)
theorem Dok.zeros (n : Nat) : Dok (List.replicate n 0) := fun y hy => by
 rw [(List.mem_replicate.1 hy).2]; exact D_pos
theorem Dok.set {xs : List Nat} (h : Dok xs) (k v : Nat) (hv : v < D) : Dok (xs.set k v) := fun y hy => by
 rcases List.mem_or_eq_of_mem_set hy with q | q
 ·exact h y q
 ·rw [q]; exact hv
theorem dv_nil : dv [] = 0 := rfl
theorem dv_cons (x : Nat) (xs : List Nat) : dv (x :: xs) = x + D * dv xs := rfl
theorem dv_append (xs ys : List Nat) : dv (xs ++ ys) = dv xs + D ^ xs.length * dv ys := by
 induction xs with
 | nil => simp [dv]
 | cons x xs ih =>
  simp only [List.cons_append, dv_cons, ih, List.length_cons, Nat.pow_succ, Nat.mul_add]
  rw [← Nat.mul_assoc D (D ^ xs.length), Nat.mul_comm D (D ^ xs.length)]
  omega
theorem dv_snoc (xs : List Nat) (y : Nat) : dv (xs ++ [y]) = dv xs + D ^ xs.length * y := by
 rw [dv_append]; simp [dv]
theorem dv_lt {xs : List Nat} (h : Dok xs) : dv xs < D ^ xs.length := by
 induction xs with
 | nil => simp [dv]
 | cons x xs ih =>
  have h1 := h x (List.mem_cons_self ..)
  have h2 := ih (fun y hy => h y (List.mem_cons_of_mem _ hy))
  rw [dv_cons, List.length_cons, Nat.pow_succ, Nat.mul_comm (D ^ xs.length) D]
  have := Nat.mul_le_mul_left D (show dv xs + 1 ≤ D ^ xs.length from h2)
  rw [Nat.mul_add] at this
  omega
theorem dv_zeros (n : Nat) : dv (List.replicate n 0) = 0 := by
 induction n with
 | zero => rfl
 | succ n ih => rw [List.replicate_succ, dv_cons, ih]; simp
theorem dv_take_drop (xs : List Nat) (k : Nat) (hk : k ≤ xs.length) : dv xs = dv (xs.take k) + D ^ k * dv (xs.drop k) := by
 have := dv_append (xs.take k) (xs.drop k)
 rw [List.take_append_drop, List.length_take, Nat.min_eq_left hk] at this
 exact this
theorem dv_take_succ (xs : List Nat) (k : Nat) (hk : k < xs.length) : dv (xs.take (k + 1)) = dv (xs.take k) + D ^ k * xs[k] := by
 rw [List.take_succ_eq_append_getElem hk, dv_snoc, List.length_take, Nat.min_eq_left (by omega)]
/-- The digits of a number without zeros at the end. -/
def ds (n : Nat) : List Nat := if _h : n = 0 then [] else n % D :: ds (n / D)
termination_by n
decreasing_by exact Nat.div_lt_self (by omega) (by unfold D; omega)
theorem ds_zero : ds 0 = [] := by unfold ds; simp
theorem ds_pos (n : Nat) (h : n ≠ 0) : ds n = n % D :: ds (n / D) := by rw [ds]; simp [h]
theorem dv_ds (n : Nat) : dv (ds n) = n := by
 induction n using Nat.strongRecOn with
 | ind n ih =>
  by_cases h : n = 0
  ·subst h; rw [ds_zero]; rfl
  ·rw [ds_pos n h, dv_cons, ih (n / D) (Nat.div_lt_self (by omega) (by unfold D; omega))]
   exact Nat.mod_add_div n D
theorem dok_ds (n : Nat) : Dok (ds n) := by
 induction n using Nat.strongRecOn with
 | ind n ih =>
  by_cases h : n = 0
  ·subst h; rw [ds_zero]; exact Dok.nil
  ·rw [ds_pos n h]
   exact Dok.cons (Nat.mod_lt _ D_pos) (ih (n / D) (Nat.div_lt_self (by omega) (by unfold D; omega)))
theorem ds_get (n i : Nat) (hi : i < (ds n).length) : (ds n)[i] = n / D ^ i % D := by
 induction n using Nat.strongRecOn generalizing i with
 | ind n ih =>
  by_cases h : n = 0
  ·subst h; simp [ds_zero] at hi
  ·have e := ds_pos n h
   rcases i with _ | i
   ·simp [e]
   ·have hi' : i < (ds (n / D)).length := by rw [e] at hi; simpa using hi
    have := ih (n / D) (Nat.div_lt_self (by omega) (by unfold D; omega)) i hi'
    simp only [e, List.getElem_cons_succ, this]
    rw [Nat.div_div_eq_div_mul, Nat.pow_succ, Nat.mul_comm D]
theorem ds_len (n k : Nat) : (ds n).length ≤ k ↔ n < D ^ k := by
 induction n using Nat.strongRecOn generalizing k with
 | ind n ih =>
  by_cases h : n = 0
  ·subst h; simp [ds_zero, Nat.pow_pos D_pos]
  ·rw [ds_pos n h, List.length_cons]
   rcases k with _ | k
   ·simp; omega
   ·have := ih (n / D) (Nat.div_lt_self (by omega) (by unfold D; omega)) k
    rw [show (ds (n / D)).length + 1 ≤ k + 1 ↔ (ds (n / D)).length ≤ k from by omega, this, Nat.div_lt_iff_lt_mul D_pos, Nat.pow_succ]
/-- How many digits are left without the zeros at the end. -/
def tlen : List Nat → Nat | [] => 0 | x :: xs => if tlen xs = 0 then (if x = 0 then 0 else 1) else tlen xs + 1
theorem tlen_le (xs : List Nat) : tlen xs ≤ xs.length := by
 induction xs with
 | nil => simp [tlen]
 | cons x xs ih => simp only [tlen, List.length_cons]; split <;> (try split) <;> omega
theorem tlen_iff (xs : List Nat) (k : Nat) : tlen xs ≤ k ↔ ∀ j, k ≤ j → xs.getD j 0 = 0 := by
 induction xs generalizing k with
 | nil => simp [tlen]
 | cons x xs ih =>
  rcases k with _ | k
  ·have := ih 0
   simp only [tlen]
   constructor
   ·intro h j _
    by_cases h0 : tlen xs = 0
    ·rw [if_pos h0] at h
     have hx : x = 0 := by by_cases q : x = 0; exact q; rw [if_neg q] at h; omega
     rcases j with _ | j
     ·simpa using hx
     ·simpa using (this.1 (by omega)) j (by omega)
    ·rw [if_neg h0] at h; omega
   ·intro h
    have h1 : tlen xs = 0 := by
     have := this.2 (fun j _ => by simpa using h (j + 1) (by omega)); omega
    have h2 : x = 0 := by simpa using h 0 (by omega)
    rw [if_pos h1, if_pos h2]; omega
  ·have := ih k
   simp only [tlen]
   constructor
   ·intro h j hj
    rcases j with _ | j
    ·omega
    ·have h1 : tlen xs ≤ k := by split at h <;> omega
     simpa using this.1 h1 j (by omega)
   ·intro h
    have h1 := this.2 (fun j hj => by simpa using h (j + 1) (by omega))
    split <;> (try split) <;> omega
theorem dv_eq_zero (xs : List Nat) : dv xs = 0 ↔ tlen xs = 0 := by
 induction xs with
 | nil => simp [dv, tlen]
 | cons x xs ih =>
  rw [dv_cons]
  have := D_pos
  simp only [tlen]
  by_cases h : tlen xs = 0
  ·rw [if_pos h, ih.2 h]
   by_cases hx : x = 0 <;> simp [hx]
  ·have h1 : dv xs ≠ 0 := fun q => h (ih.1 q)
   have h2 : 0 < D * dv xs := Nat.mul_pos D_pos (by omega)
   rw [if_neg h]; omega
theorem trimD (xs : List Nat) (h : Dok xs) : xs.take (tlen xs) = ds (dv xs) := by
 induction xs with
 | nil => simp [dv, ds_zero]
 | cons x xs ih =>
  have h1 : x < D := h x (List.mem_cons_self ..)
  have ih := ih (fun y hy => h y (List.mem_cons_of_mem _ hy))
  rw [dv_cons]
  by_cases h0 : tlen xs = 0
  ·have hz := (dv_eq_zero xs).2 h0
   simp only [tlen, if_pos h0, hz]
   by_cases hx : x = 0
   ·simp [hx, ds_zero]
   ·rw [if_neg hx, show x + D * 0 = x from by simp, ds_pos x hx, Nat.mod_eq_of_lt h1, Nat.div_eq_of_lt h1, ds_zero]
    simp
  ·have hz : dv xs ≠ 0 := fun q => h0 ((dv_eq_zero xs).1 q)
   have hp : 0 < D * dv xs := Nat.mul_pos D_pos (by omega)
   simp only [tlen, if_neg h0]
   rw [ds_pos (x + D * dv xs) (by omega), Nat.add_mul_mod_self_left, Nat.mod_eq_of_lt h1, Nat.add_mul_div_left _ _ D_pos, Nat.div_eq_of_lt h1, Nat.zero_add, List.take_succ_cons, ih]
theorem tlen_ds (n : Nat) : tlen (ds n) = (ds n).length := by
 have h := trimD (ds n) (dok_ds n)
 rw [dv_ds] at h
 have := congrArg List.length h
 rw [List.length_take] at this
 have := tlen_le (ds n)
 omega
theorem D_pow (k : Nat) : D ^ k = 256 ^ (8 * k) := by rw [Nat.pow_mul, show (256 : Nat) ^ 8 = D from by decide]
theorem ds_len_bytes (l : List UInt8) : (ds (bv l)).length = ((trimL l).length + 7) / 8 := by
 have h1 : ∀ k, (ds (bv l)).length ≤ k ↔ (trimL l).length ≤ 8 * k := fun k => by rw [ds_len, D_pow, trim_len]
 have h2 := (h1 (ds (bv l)).length).1 (Nat.le_refl _)
 rcases Nat.eq_zero_or_pos (ds (bv l)).length with h0 | h0
 ·omega
 ·have h3 := h1 ((ds (bv l)).length - 1)
  omega
theorem ds_chunk (l : List UInt8) (k e : Nat) (he : e = (trimL l).length - 8 * k) (hk : k < (ds (bv l)).length) : bv (((trimL l).take e).drop (e - 8)) = (ds (bv l))[k] := by
 have h := ds_len_bytes l
 rw [bv_chunk (trimL l) k e he (by omega), ds_get, D_pow, bv_trim, show (256 : Nat) ^ 8 = D from by decide]
theorem fill_set {α : Type} (xs : List α) (k n : Nat) (z v : α) (hk : k < n) (hl : xs.length = n) (hv : xs[k]? = some v) :
  (xs.take k ++ List.replicate (n - k) z).set k v = xs.take (k + 1) ++ List.replicate (n - (k + 1)) z := by
 have hkl : k < xs.length := by omega
 have e : v = xs[k] := by rw [List.getElem?_eq_getElem hkl] at hv; exact (Option.some.inj hv).symm
 rw [List.set_append_right _ _ (by simp; omega), List.length_take, Nat.min_eq_left (by omega), Nat.sub_self,
  show n - k = (n - (k + 1)) + 1 from by omega, List.replicate_succ, List.set_cons_zero, List.take_succ_eq_append_getElem hkl, e, List.append_assoc]
 rfl
end Go.Proofs.YtkeomlpecjjhiaaGreatDoor
namespace Go.Proofs.YtkeomlpecjjhiaaGreatDoor
open Go.RowKit
abbrev S (l : List UInt8) : Value := .string ⟨l.toArray⟩
abbrev U (n : Nat) : Value := .int .u64 (n : Int)
abbrev Y (b : UInt8) : Value := .int .u8 (b.toNat : Int)
def strLen : Value → Nat | .string s => s.size | _ => 0
theorem ret_S {l l' : List UInt8} (h : l = l') : Ending.returned (S l) = .returned (S l') := by rw [h]
theorem ret_int {k : IntKind} {a b : Int} (h : a = b) : Ending.returned (.int k a) = .returned (.int k b) := by rw [h]
theorem ret_bool {a b : Bool} (h : a = b) : Ending.returned (.bool a) = .returned (.bool b) := by rw [h]
theorem ret_nat {k : IntKind} {a b : Nat} (h : a = b) : Ending.returned (.int k a) = .returned (.int k b) := by rw [h]

/-- Block g holds these values, and none of them is frozen. -/
def Blk (w : World) (g : Nat) (t : TypeId) (cs : List Value) : Prop := w.heap[g]? = some (.cells cs.toArray t (0, 0))
theorem Blk.lt {w : World} {g : Nat} {t : TypeId} {cs : List Value} (h : Blk w g t cs) : g < w.heap.size := (Array.getElem?_eq_some_iff.1 h).1
theorem Blk.cell {w : World} {g : Nat} {t : TypeId} {cs : List Value} (h : Blk w g t cs) (j : Nat) : w.cell? ⟨g, j, none⟩ = cs[j]? := by
 unfold Blk at h
 simp [World.cell?, h]
theorem Blk.frozen {w : World} {g : Nat} {t : TypeId} {cs : List Value} (h : Blk w g t cs) (j : Nat) : w.frozen? ⟨g, j, none⟩ = false := by
 unfold Blk at h
 simp [World.frozen?, h]
theorem Blk.drew {w : World} {g : Nat} {t : TypeId} {cs : List Value} (h : Blk w g t cs) : Blk w.drew g t cs := h
theorem Blk.drewN {w : World} {g : Nat} {t : TypeId} {cs : List Value} (h : Blk w g t cs) (n : Nat) : Blk (w.drewN n) g t cs := h
theorem Blk.alloc {w : World} {g : Nat} {t : TypeId} {cs : List Value} (h : Blk w g t cs) (o : Obj) : Blk (w.alloc o) g t cs := by
 have := h.lt
 unfold Blk at h ⊢
 rw [Below.heap_alloc _ _ _ this]; exact h
theorem Blk.new (w : World) (a : Array Value) (t : TypeId) : Blk (w.alloc (.cells a t (0, 0))) w.heap.size t a.toList := by
 unfold Blk
 show (w.heap.push _)[w.heap.size]? = _
 simp
theorem Blk.set {w : World} {g : Nat} {t : TypeId} {cs : List Value} (h : Blk w g t cs) (j : Nat) (v : Value) : Blk (w.setCell ⟨g, j, none⟩ v) g t (cs.set j v) := by
 unfold Blk at h ⊢
 simp [World.setCell, Array.getElem?_modify, h]
theorem Blk.set_other {w : World} {g g' : Nat} {t : TypeId} {cs : List Value} (h : Blk w g t cs) (hne : g ≠ g') (j : Nat) (v : Value) : Blk (w.setCell ⟨g', j, none⟩ v) g t cs := by
 unfold Blk at h ⊢
 rw [Below.heap_setCell _ _ _ _ hne]; exact h
theorem Blk.setRow {w : World} {g : Nat} {t : TypeId} {cs : List Value} (h : Blk w g t cs) (ds : List Value) : Blk (w.setRow g ds.toArray) g t ds :=
 setRow_heap w g cs.toArray ds.toArray t (0, 0) h
theorem Blk.setRow_other {w : World} {g g' : Nat} {t : TypeId} {cs : List Value} (h : Blk w g t cs) (hne : g ≠ g') (ds : Array Value) : Blk (w.setRow g' ds) g t cs := by
 unfold Blk at h ⊢
 rw [Go.setRow_other w g' g _ (by omega)]; exact h
theorem Blk.cast {w : World} {g : Nat} {t : TypeId} {cs ds : List Value} (h : Blk w g t cs) (e : cs = ds) : Blk w g t ds := e ▸ h

/-- Below block B only the blocks of R may have turned; no block has gone. -/
structure Ch (B : Nat) (R : Nat → Prop) (w w' : World) : Prop where
 os : w'.os = w.os
 tape : w'.tape = w.tape
 output : w'.output = w.output
 size : w.heap.size ≤ w'.heap.size
 block : ∀ k, k < B → ¬ R k → w'.heap[k]? = w.heap[k]?
def none1 : Nat → Prop := fun _ => False
theorem Ch.refl (B : Nat) (R : Nat → Prop) (w : World) : Ch B R w w := ⟨rfl, rfl, rfl, Nat.le_refl _, fun _ _ _ => rfl⟩
theorem Ch.trans {B : Nat} {R : Nat → Prop} {a b c : World} (h : Ch B R a b) (k : Ch B R b c) : Ch B R a c :=
 ⟨k.os.trans h.os, k.tape.trans h.tape, k.output.trans h.output, Nat.le_trans h.size k.size, fun i hi hr => (k.block i hi hr).trans (h.block i hi hr)⟩
theorem Ch.mono {B B' : Nat} {R R' : Nat → Prop} {a b : World} (h : Ch B R a b) (hB : B' ≤ B) (hR : ∀ k, k < B' → R k → R' k) : Ch B' R' a b :=
 ⟨h.os, h.tape, h.output, h.size, fun i hi hr => h.block i (Nat.lt_of_lt_of_le hi hB) fun q => hr (hR i hi q)⟩
/-- One more call: of what lay there when it began it turned only what R allows. -/
theorem Ch.step {B : Nat} {R R' : Nat → Prop} {a b c : World} (h : Ch B R a b) (k : Ch b.heap.size R' b c) (hB : B ≤ a.heap.size) (hR : ∀ k, k < B → R' k → R k) : Ch B R a c :=
 h.trans (k.mono (Nat.le_trans hB h.size) hR)
theorem Ch.step0 {B : Nat} {R : Nat → Prop} {a b c : World} (h : Ch B R a b) (k : Ch b.heap.size none1 b c) (hB : B ≤ a.heap.size) : Ch B R a c :=
 h.step k hB (fun _ _ q => q.elim)
theorem Ch.drew {B : Nat} {R : Nat → Prop} {a b : World} (h : Ch B R a b) : Ch B R a b.drew := ⟨h.os, h.tape, h.output, h.size, h.block⟩
theorem Ch.drewN {B : Nat} {R : Nat → Prop} {a b : World} (h : Ch B R a b) (n : Nat) : Ch B R a (b.drewN n) := ⟨h.os, h.tape, h.output, h.size, h.block⟩
theorem Ch.alloc {B : Nat} {R : Nat → Prop} {a b : World} (h : Ch B R a b) (hB : B ≤ b.heap.size) (o : Obj) : Ch B R a (b.alloc o) :=
 h.trans ⟨rfl, rfl, rfl, by simp, fun k hk _ => Below.heap_alloc _ _ _ (by omega)⟩
theorem Ch.setCell {B : Nat} {R : Nat → Prop} {a b : World} (h : Ch B R a b) {p : Addr} (hp : B ≤ p.block ∨ R p.block) (u : Value) : Ch B R a (b.setCell p u) :=
 h.trans ⟨rfl, rfl, rfl, by simp [World.setCell], fun k hk hr => Below.heap_setCell _ _ _ _ (fun e => by rcases hp with q | q; omega; exact hr (e ▸ q))⟩
theorem Ch.setRow {B : Nat} {R : Nat → Prop} {a b : World} (h : Ch B R a b) {g : Nat} (hp : B ≤ g ∨ R g) (u : Array Value) : Ch B R a (b.setRow g u) :=
 h.trans ⟨rfl, rfl, rfl, by simp [World.setRow], fun k hk hr => Go.setRow_other b g k u (fun e => by rcases hp with q | q; omega; exact hr (e ▸ q))⟩
theorem Ch.blk {B : Nat} {R : Nat → Prop} {w w' : World} (h : Ch B R w w') {g : Nat} {t : TypeId} {cs : List Value} (hb : Blk w g t cs) (hg : g < B) (hr : ¬ R g) : Blk w' g t cs := by
 unfold Blk at hb ⊢
 rw [h.block g hg hr]; exact hb
theorem Ch.below {B : Nat} {w w' : World} (h : Ch B none1 w w') : Below B w w' := ⟨h.os, h.tape, h.output, h.size, fun k hk => h.block k hk (fun q => q)⟩
theorem Ch.of_below {B : Nat} {R : Nat → Prop} {w w' : World} (h : Below B w w') : Ch B R w w' := ⟨h.os, h.tape, h.output, h.size, fun k hk _ => h.block k hk⟩
theorem Ch.cell {B : Nat} {R : Nat → Prop} {w w' : World} (h : Ch B R w w') {p : Addr} (hp : p.block < B) (hr : ¬ R p.block) : w'.cell? p = w.cell? p := World.cell?_of_block (w := w) (h.block p.block hp hr)
theorem Ch.frozen {B : Nat} {R : Nat → Prop} {w w' : World} (h : Ch B R w w') {p : Addr} (hp : p.block < B) (hr : ¬ R p.block) : w'.frozen? p = w.frozen? p := World.frozen?_of_block (w := w) (h.block p.block hp hr)

/-- A slice of digits as it is read: nil, or cells of a block. -/
structure Dg (w : World) (p : Option Addr) (n : Nat) (xs : List Nat) : Prop where
 len : xs.length = n
 lt : ∀ x ∈ xs, x < 18446744073709551616
 nil : p = none → n = 0
 at' : ∀ a, p = some a → a.spot = none ∧ ∃ t pre post, Blk w a.block t (pre ++ xs.map U ++ post) ∧ pre.length = a.off
theorem Dg.get {w : World} {g o n : Nat} {xs : List Nat} (h : Dg w (some ⟨g, o, none⟩) n xs) (i : Nat) (hi : i < n) : w.cell? ⟨g, o + i, none⟩ = some (U (xs[i]'(by rw [h.len]; exact hi))) := by
 obtain ⟨_, t, pre, post, hb, hl⟩ := h.at' _ rfl
 rw [hb.cell]
 simp only at hl
 have hx : i < xs.length := by rw [h.len]; exact hi
 rw [List.append_assoc, List.getElem?_append_right (by omega), List.getElem?_append_left (by simp; omega)]
 simp [hl, hx]
theorem Dg.addr {w : World} {p : Option Addr} {n : Nat} {xs : List Nat} (h : Dg w p n xs) (hn : 0 < n) : ∃ g o, p = some ⟨g, o, none⟩ := by
 cases p with
 | none => have := h.nil rfl; omega
 | some a =>
  obtain ⟨h1, _⟩ := h.at' a rfl
  obtain ⟨g, o, s⟩ := a
  simp only at h1
  subst h1
  exact ⟨g, o, rfl⟩
theorem Dg.ch {B : Nat} {R : Nat → Prop} {w w' : World} (h : Ch B R w w') {p : Option Addr} {n : Nat} {xs : List Nat} (hd : Dg w p n xs) (hp : ∀ a, p = some a → a.block < B ∧ ¬ R a.block) : Dg w' p n xs :=
 ⟨hd.len, hd.lt, hd.nil, fun a ha => by
  obtain ⟨h1, t, pre, post, hb, hl⟩ := hd.at' a ha
  exact ⟨h1, t, pre, post, h.blk hb (hp a ha).1 (hp a ha).2, hl⟩⟩
theorem Dg.lt_size {w : World} {p : Option Addr} {n : Nat} {xs : List Nat} (hd : Dg w p n xs) : ∀ a, p = some a → a.block < w.heap.size := fun a ha => by
 obtain ⟨_, t, pre, post, hb, _⟩ := hd.at' a ha
 exact hb.lt

section
variable {P : Program}
theorem plain_add (g o j : Nat) : (⟨g, o, none⟩ : Addr).add j = ⟨g, o + j, none⟩ := by unfold Addr.add; split <;> simp_all
theorem one_int (k : IntKind) (n : Int) : (Value.int k n).oneCell' = true := rfl
theorem Blk.adds {w : World} {g : Nat} {t : TypeId} {cs : List Value} (h : Blk w g t cs) (j : Nat) (u : Value) (hj : cs[j]? = some u) : w.cell? ((⟨g, 0, none⟩ : Addr).add j) = some u := by
 rw [plain_add, Nat.zero_add, h.cell, hj]
/-- append within the capacity, into whatever block. -/
theorem run_append_blk (w : World) (t ty e : TypeId) (i : TypeInfo) (ht : P.underlying t = some (.slice e)) (hi : P.info? e = some i) (hs : i.size = 1)
  (g n cap : Nat) (tag : TypeId) (cs : List Value) (hB : Blk w g tag cs)
  (a : Addr) (m c : Nat) (news : List Value) (hl : news.length = m) (hnews : ∀ j u, news[j]? = some u → w.cell? (a.add j) = some u) (h1 : ∀ u ∈ news, u.oneCell' = true)
  (hroom : n + m ≤ cap) (hfit : n + m ≤ cs.length) :
  (Builtin.append_ #[t, t] ty #[.slice (some ⟨g, 0, none⟩) n cap, .slice (some a) m c]).run P w =
   .ok (.slice (some ⟨g, 0, none⟩) (n + m) cap) (w.setRow g (cs.take n ++ news ++ cs.drop (n + m)).toArray) := by
 have hf := run_firstCells_some (P := P) w i.size m a m c news (by rw [hl, hs, Nat.mul_one]) hnews
 have hst := run_storeCells_at P g n tag news 0 cs.toArray w hB (by simp; omega) h1
 simp only [Nat.add_zero] at hst
 rw [hs] at hf
 rw [hl] at hst
 simp [Builtin.append_, run_underlying ht, sizeOf, typeInfo, hi, Builtin.lenOf, hroom, hf, Addr.add_lit, hst, hs, List.append_assoc]
theorem wpList_append_blk (w : World) {ops : Array Oper} {rest : List Oper} {o : Oper} {a : Act} {Q : Exit → Act → World → Prop}
  (hg : o.guard = none) (s x : Operand) (t : TypeId) (hop : o.op = Op.call { callee := Callee.builtin Builtin.append, args := #[s, x], argTypes := #[t, t] })
  (e : TypeId) (i : TypeInfo) (h1 : P.underlying t = some (.slice e)) (h2 : P.info? e = some i) (h4 : i.size = 1)
  (g k cap : Nat) (tag : TypeId) (cs : List Value) (hs : a.eval s = .slice (some ⟨g, 0, none⟩) k cap) (hB : Blk w g tag cs) (ad : Addr) (m c : Nat) (news : List Value) (hx : a.eval x = .slice (some ad) m c) (hn : news.length = m)
  (hc : ∀ j u, news[j]? = some u → w.cell? (ad.add j) = some u) (h1c : ∀ u ∈ news, u.oneCell' = true) (b1 : k + m ≤ cap) (b2 : k + m ≤ cs.length)
  (hK : ∀ w', Blk w' g tag (cs.take k ++ news ++ cs.drop (k + m)) → Ch w.heap.size (· = g) w w' → wpList P ops Q rest (a.put o.dst (.slice (some ⟨g, 0, none⟩) (k + m) cap)) w') :
  wpList P ops Q (o :: rest) a w := by
 refine wpList_plain hg fun K hK' => ?_
 have hrun := run_append_blk (P := P) w t o.type e i h1 h2 h4 g k cap tag cs hB ad m c news hn hc h1c b1 b2
 unfold Oper.wp
 simp [execOp, hop, resolve, invoke, builtin, hs, hx, hrun, Result.andThen]
 exact hK' _ _ (hK _ (by rw [← List.append_assoc]; exact hB.setRow _) (Ch.setRow (R := (· = g)) (Ch.refl w.heap.size _ w) (.inr rfl) _))
theorem Blk.of_own {w : World} {base g n cap : Nat} {e : TypeId} {xs : List Value} (h : w.ownsRow base e 1 (.slice (some ⟨g, 0, none⟩) n cap) n xs) :
  ∃ cs, Blk w g e cs ∧ cs.length = cap ∧ cs.take n = xs ∧ base ≤ g := by
 obtain ⟨h1, h2⟩ := h
 rcases h2 with ⟨q, _⟩ | ⟨g', cap', cur, hv, hb, hg, hn, hm, hs, ht⟩
 ·simp at q
 ·simp only [Value.slice.injEq, Option.some.injEq, Addr.mk.injEq, and_true, true_and] at hv
  obtain ⟨rfl, rfl⟩ := hv
  refine ⟨cur.toList, ?_, by simpa using hs, by simpa using ht, hb⟩
  unfold Blk
  simpa using hg
theorem Ch.of_grown {w w' : World} (h : w.grownBy w' none) : Ch w.heap.size none1 w w' :=
 ⟨h.os, h.tape, h.output, h.size, fun k hk _ => h.block k hk (by simp)⟩
theorem madeCells_int (k : IntKind) (z : Int) (n : Nat) : (madeCells (Value.int k z).cells (n * 1)).toList = List.replicate n (Value.int k z) := by
 rw [Nat.mul_one]
 refine List.eq_replicate_iff.2 ⟨by simp [madeCells], fun b hb => ?_⟩
 simp only [madeCells, Value.cells, Array.toList_map, List.mem_map] at hb
 obtain ⟨j, _, rfl⟩ := hb
 have : j % (#[Value.int k z] : Array Value).size = 0 := Nat.mod_one j
 rw [this]
 rfl
theorem wpList_make_blk (w : World) {ops : Array Oper} {rest : List Oper} {o : Oper} {a : Act} {Q : Exit → Act → World → Prop}
  (hg : o.guard = none) (l c : Operand) (t : TypeId) (hop : o.op = Op.makeSlice t l c)
  (e : TypeId) (i : TypeInfo) (k : IntKind) (z : Int) (h1 : P.underlying t = some (.slice e)) (h2 : P.info? e = some i) (h3 : i.zero = some (.int k z)) (h4 : i.size = 1)
  (kl kc : IntKind) (L C : Int) (n : Nat) (hl : a.eval l = .int kl L) (hc : a.eval c = .int kc C) (hL : L = (n : Int)) (hC : C = (n : Int)) (b2 : i.bytes * n ≤ 281474976710656) (b3 : n ≤ maxLen)
  (hK : ∀ w', Blk w' w.heap.size e (List.replicate n (.int k z)) → Ch w.heap.size none1 w w' → wpList P ops Q rest (a.put o.dst (.slice (some ⟨w.heap.size, 0, none⟩) n n)) w') :
  wpList P ops Q (o :: rest) a w :=
 wpList_make_full w hg l c t hop w.heap.size e i _ 1 h1 h2 h3 h4 kl kc L C n hl hc hL hC b2 b3 (Nat.le_refl _) fun w' ho hgr => by
  obtain ⟨cs, hb, hlen, htk, _⟩ := Blk.of_own ho
  rw [madeCells_int, List.take_of_length_le (by omega)] at htk
  exact hK w' (hb.cast htk) (Ch.of_grown hgr)
theorem wpList_make_cap (w : World) {ops : Array Oper} {rest : List Oper} {o : Oper} {a : Act} {Q : Exit → Act → World → Prop}
  (hg : o.guard = none) (l c : Operand) (t : TypeId) (hop : o.op = Op.makeSlice t l c)
  (e : TypeId) (i : TypeInfo) (k : IntKind) (z : Int) (h1 : P.underlying t = some (.slice e)) (h2 : P.info? e = some i) (h3 : i.zero = some (.int k z)) (h4 : i.size = 1)
  (kl kc : IntKind) (C : Int) (n : Nat) (hl : a.eval l = .int kl 0) (hc : a.eval c = .int kc C) (hC : C = (n : Int)) (b2 : i.bytes * n ≤ 281474976710656) (b3 : n ≤ maxLen)
  (hK : ∀ w' cs, Blk w' w.heap.size e cs → cs.length = n → Ch w.heap.size none1 w w' → wpList P ops Q rest (a.put o.dst (.slice (some ⟨w.heap.size, 0, none⟩) 0 n)) w') :
  wpList P ops Q (o :: rest) a w :=
 wpList_make_own w hg l c t hop w.heap.size e i _ 1 h1 h2 h3 h4 kl kc C n hl hc hC b2 b3 (Nat.le_refl _) fun w' ho hgr => by
  obtain ⟨cs, hb, hlen, htk, _⟩ := Blk.of_own ho
  exact hK w' cs hb hlen (Ch.of_grown hgr)
theorem strOfNums_bytes (l : List UInt8) : strOfNums (l.map fun b => (b.toNat : Int)) = ⟨l.toArray⟩ := by
 unfold strOfNums
 congr 1
 simp [Function.comp_def]
/-- []byte to a string. -/
theorem run_convert_blk (w : World) (src dst e : TypeId) (hs : P.underlying src = some (.slice e)) (he : P.underlying e = some (.int .u8)) (hd : P.underlying dst = some .string)
  (g off n cap : Nat) (l : List UInt8) (tag : TypeId) (cs : List Value) (hB : Blk w g tag cs) (hl : l.length = n) (h : ∀ i (hi : i < l.length), cs[off + i]? = some (Y l[i])) :
  (convert src dst (.slice (some ⟨g, off, none⟩) n cap)).run P w = .ok (S l) w := by
 rw [run_convert_bytes_arg (P := P) w src e hs he g off n cap (l.map fun b => (b.toNat : Int)) (by simpa using hl) (fun i hi => by
  rw [hB.cell, h i (by omega)]
  simp [List.getD, hl, hi]) dst hd, strOfNums_bytes]
end
end Go.Proofs.YtkeomlpecjjhiaaGreatDoor
namespace Go.Proofs.YtkeomlpecjjhiaaGreatDoor
open Go.RowKit
theorem ext1 (b : UInt8) (l : List UInt8) (n : Nat) (h : n = l.length + 1) : (ByteArray.mk (b :: l).toArray).extract 1 n = ⟨l.toArray⟩ := by
 subst h
 apply ByteArray.ext
 simp [ByteArray.data_extract]
set_option maxHeartbeats 400000 in
theorem trimmed_any (l0 : List UInt8) (w : World) (_hs : l0.length ≤ maxLen) :
  Calls Tryz.prog 127 #[S l0] w fun e w' => e = .returned (S (trimL l0)) ∧ w' = w := by
 unfold maxLen at _hs
 go_enter Tryz.func127, Tryz.ntmps127
 go_wp2
 go_loop [0] (fun v => ∃ l : List UInt8, v = S l ∧ l.length ≤ l0.length ∧ trimL l = trimL l0) (fun v => strLen v)
 case atStart => exact ⟨l0, rfl, Nat.le_refl _, rfl⟩
 case round =>
  obtain ⟨l, rfl, hl, ht⟩ := hrel
  have HT := Lib.hid ht; clear ht
  rcases l with _ | ⟨b, l⟩
  ·go_wp2
   go_ret
   exact ⟨ret_S (by simpa [trimL] using HT.out), rfl⟩
  ·by_cases hb : b = 0
   ·subst hb
    go_wp2
    go_round
    case rel => exact ⟨l, by rw [ext1 _ _ _ rfl], by simp at hl; omega, by rw [← trimL_zero]; exact HT.out⟩
    case measure => rw [ext1 _ _ _ rfl]; simp [strLen, ByteArray.size]
   ·go_wp2
    ·exact absurd (u8_zero b (by assumption)) hb
    ·go_ret
     exact ⟨ret_S (by rw [← HT.out, trimL_ne _ _ hb]), rfl⟩
theorem get_mk (l : List UInt8) (k : Nat) (_h : k < l.length) (h' : k < (ByteArray.mk l.toArray).size) : (ByteArray.mk l.toArray)[k]'h' = l[k] := rfl
theorem u64_wrap (n : Nat) (h : n < 18446744073709551616) : IntKind.u64.wrap (n : Int) = n := IntWalk.u64_in _ (by omega)
theorem u64_or (a b : Nat) (ha : a < 18446744073709551616) (hb : b < 18446744073709551616) : bits .or .u64 (a : Int) (b : Int) = ((a ||| b : Nat) : Int) :=
 (bits_nat .u64 64 (by decide) (fun n h0 h1 => IntWalk.u64_in n (by omega)) a b ha hb).2
theorem u64_and (a b : Nat) (ha : a < 18446744073709551616) (hb : b < 18446744073709551616) : bits .and .u64 (a : Int) (b : Int) = ((a &&& b : Nat) : Int) :=
 (bits_nat .u64 64 (by decide) (fun n h0 h1 => IntWalk.u64_in n (by omega)) a b ha hb).1
theorem or_mul (a b k : Nat) (hb : b < 2 ^ k) : (a * 2 ^ k) ||| b = a * 2 ^ k + b := by
 rw [Nat.mul_comm]; exact (Nat.two_pow_add_eq_or_of_lt hb a).symm
theorem word_step (l : List UInt8) (k : Nat) (h : k < l.length) (hl : l.length ≤ 8) (h' : k < (ByteArray.mk l.toArray).size) :
  bits .or .u64 (IntKind.u64.wrap (((bv (l.take k) : Nat) : Int) * 256)) (IntKind.u64.wrap (((ByteArray.mk l.toArray)[k]'h').toNat : Int)) = ((bv (l.take (k + 1)) : Nat) : Int) := by
 have hb := u8_lt l[k]
 have h1 := bv_lt (l.take k)
 have h2 : 256 ^ (l.take k).length ≤ 256 ^ 7 := Nat.pow_le_pow_right (by omega) (by simp; omega)
 have h3 : (256 : Nat) ^ 7 = 72057594037927936 := by decide
 rw [get_mk l k h, u64_wrap _ (by omega), show ((bv (l.take k) : Nat) : Int) * 256 = ((bv (l.take k) * 256 : Nat) : Int) from by omega, u64_wrap _ (by omega), u64_or _ _ (by omega) (by omega)]
 rw [List.take_succ_eq_append_getElem h, bv_snoc]
 have := or_mul (bv (l.take k)) l[k].toNat 8 hb
 rw [show (2 : Nat) ^ 8 = 256 from rfl] at this
 rw [this]
set_option maxHeartbeats 400000 in
theorem wordOf_any (l0 : List UInt8) (w : World) (hs : l0.length ≤ 8) :
  Calls Tryz.prog 171 #[S l0] w fun e w' => e = .returned (.int .u64 (bv l0 : Nat)) ∧ w' = w := by
 go_enter Tryz.func171, Tryz.ntmps171
 go_wp2
 go_loop [3, 7] (fun v i => ∃ k : Nat, k ≤ l0.length ∧ i = .int .i64 k ∧ v = .int .u64 (bv (l0.take k) : Nat)) (fun _ i => l0.length - (intOf i).toNat)
 case atStart => exact ⟨0, Nat.zero_le _, rfl, rfl⟩
 case round =>
  obtain ⟨k, hk, rfl, rfl⟩ := hrel
  by_cases hlt : k < l0.length
  ·go_wp2
   go_round
   case rel => exact ⟨k + 1, by omega, by go_num, congrArg _ (word_step l0 k hlt hs _)⟩
   case measure => simp [intOf]; omega
  ·go_wp2
   go_ret
   exact ⟨ret_nat (by rw [List.take_of_length_le (by omega)]), rfl⟩
theorem wordOf_str (s : ByteArray) (w : World) (hs : s.size ≤ 8) :
  Calls Tryz.prog 171 #[.string s] w fun e w' => e = .returned (.int .u64 (bv s.data.toList : Nat)) ∧ w' = w :=
 wordOf_any s.data.toList w (by have h : s.data.toList.length = s.size := Array.length_toList; omega)
theorem wordOf_is (s : ByteArray) (v : Nat) (w : World) (hs : s.size ≤ 8) (hv : bv s.data.toList = v) :
  Calls Tryz.prog 171 #[.string s] w fun e w' => e = .returned (U v) ∧ w' = w := hv ▸ wordOf_str s w hs
theorem ext_list (l : List UInt8) (i j : Nat) : ((ByteArray.mk l.toArray).extract i j).data.toList = (l.take j).drop i := by
 simp [ByteArray.data_extract, List.extract_eq_take_drop, List.drop_take]
theorem ext_size (l : List UInt8) (i j : Nat) : ((ByteArray.mk l.toArray).extract i j).size = ((l.take j).drop i).length := by
 rw [← ext_list]; exact Array.length_toList.symm
theorem trim_len8 (l : List UInt8) : (trimL l).length ≤ 8 ↔ bv l < 18446744073709551616 := by
 have := trim_len l 8
 rwa [show (256 : Nat) ^ 8 = 18446744073709551616 from by decide] at this

set_option maxHeartbeats 400000 in
theorem word_yes (l0 : List UInt8) (w : World) (hs : l0.length ≤ maxLen) (h8 : bv l0 < 18446744073709551616) :
  Calls Tryz.prog 146 #[S l0] w fun e w' => e = .returned (.tuple #[.int .u64 (bv l0 : Nat), .bool true]) ∧ w' = w := by
 have h1 := (trim_len8 l0).2 h8
 have h2 := trimL_len l0
 go_enter Tryz.func146, Tryz.ntmps146
 go_wp2_with fail
 refine (trimmed_any l0 _ hs).mono ?_
 rintro e w' ⟨rfl, rfl⟩
 go_wp2_with fail
 refine (wordOf_any _ _ h1).mono ?_
 rintro e w' ⟨rfl, rfl⟩
 go_wp2_with fail
 go_ret2
 exact ⟨by rw [bv_trim]; rfl, rfl⟩
set_option maxHeartbeats 400000 in
theorem word_no (l0 : List UInt8) (w : World) (hs : l0.length ≤ maxLen) (h8 : ¬ bv l0 < 18446744073709551616) :
  Calls Tryz.prog 146 #[S l0] w fun e w' => e = .returned (.tuple #[.int .u64 0, .bool false]) ∧ w' = w := by
 have h1 : 8 < (trimL l0).length := by have := trim_len8 l0; omega
 have h2 := trimL_len l0
 go_enter Tryz.func146, Tryz.ntmps146
 go_wp2_with fail
 refine (trimmed_any l0 _ hs).mono ?_
 rintro e w' ⟨rfl, rfl⟩
 go_wp2_with fail
 go_ret2
 exact ⟨rfl, rfl⟩
end Go.Proofs.YtkeomlpecjjhiaaGreatDoor
namespace Go.Proofs.YtkeomlpecjjhiaaGreatDoor
open Go.RowKit
def wv (l : List UInt8) : Nat := if bv l < 18446744073709551616 then bv l else 0
set_option maxHeartbeats 400000 in
theorem words_yes (a b : List UInt8) (w : World) (ha : a.length ≤ maxLen) (hb : b.length ≤ maxLen) (h1 : bv a < 18446744073709551616) (h2 : bv b < 18446744073709551616) :
  Calls Tryz.prog 134 #[S a, S b] w fun e w' => e = .returned (.tuple #[U (bv a), U (bv b), .bool true]) ∧ w' = w := by
 go_enter Tryz.func134, Tryz.ntmps134
 go_wp2_with fail
 refine (word_yes a _ ha h1).mono ?_
 rintro e w' ⟨rfl, rfl⟩
 go_wp2_with fail
 refine (word_yes b _ hb h2).mono ?_
 rintro e w' ⟨rfl, rfl⟩
 go_wp2_with fail
 go_ret3
 exact ⟨rfl, rfl⟩
set_option maxHeartbeats 400000 in
theorem words_no (a b : List UInt8) (w : World) (ha : a.length ≤ maxLen) (hb : b.length ≤ maxLen) (h : ¬ (bv a < 18446744073709551616 ∧ bv b < 18446744073709551616)) :
  Calls Tryz.prog 134 #[S a, S b] w fun e w' => e = .returned (.tuple #[U (wv a), U (wv b), .bool false]) ∧ w' = w := by
 by_cases h1 : bv a < 18446744073709551616
 ·have h2 : ¬ bv b < 18446744073709551616 := fun q => h ⟨h1, q⟩
  have e1 : wv a = bv a := if_pos h1
  have e2 : wv b = 0 := if_neg h2
  rw [e1, e2]
  clear e1 e2 h
  go_enter Tryz.func134, Tryz.ntmps134
  go_wp2_with fail
  refine (word_yes a _ ha h1).mono ?_
  rintro e w' ⟨rfl, rfl⟩
  go_wp2_with fail
  refine (word_no b _ hb h2).mono ?_
  rintro e w' ⟨rfl, rfl⟩
  go_wp2_with fail
  go_ret3
  exact ⟨rfl, rfl⟩
 ·have e1 : wv a = 0 := if_neg h1
  by_cases h2 : bv b < 18446744073709551616
  ·have e2 : wv b = bv b := if_pos h2
   rw [e1, e2]
   clear e1 e2 h
   go_enter Tryz.func134, Tryz.ntmps134
   go_wp2_with fail
   refine (word_no a _ ha h1).mono ?_
   rintro e w' ⟨rfl, rfl⟩
   go_wp2_with fail
   refine (word_yes b _ hb h2).mono ?_
   rintro e w' ⟨rfl, rfl⟩
   go_wp2_with fail
   go_ret3
   exact ⟨rfl, rfl⟩
  ·have e2 : wv b = 0 := if_neg h2
   rw [e1, e2]
   clear e1 e2 h
   go_enter Tryz.func134, Tryz.ntmps134
   go_wp2_with fail
   refine (word_no a _ ha h1).mono ?_
   rintro e w' ⟨rfl, rfl⟩
   go_wp2_with fail
   refine (word_no b _ hb h2).mono ?_
   rintro e w' ⟨rfl, rfl⟩
   go_wp2_with fail
   go_ret3
   exact ⟨rfl, rfl⟩
set_option maxHeartbeats 400000 in
theorem int_yes (a : List UInt8) (w : World) (ha : a.length ≤ maxLen) (h1 : bv a ≤ 9223372036854775807) :
  Calls Tryz.prog 105 #[S a] w fun e w' => e = .returned (.tuple #[.int .i64 (bv a : Nat), .bool true]) ∧ w' = w := by
 go_enter Tryz.func105, Tryz.ntmps105
 go_wp2_with fail
 refine (word_yes a _ ha (by omega)).mono ?_
 rintro e w' ⟨rfl, rfl⟩
 go_wp2_with fail
 go_ret2
 exact ⟨rfl, rfl⟩
set_option maxHeartbeats 400000 in
theorem int_no (a : List UInt8) (w : World) (ha : a.length ≤ maxLen) (h1 : ¬ bv a ≤ 9223372036854775807) :
  Calls Tryz.prog 105 #[S a] w fun e w' => e = .returned (.tuple #[.int .i64 0, .bool false]) ∧ w' = w := by
 by_cases h2 : bv a < 18446744073709551616
 ·go_enter Tryz.func105, Tryz.ntmps105
  go_wp2_with fail
  refine (word_yes a _ ha (by omega)).mono ?_
  rintro e w' ⟨rfl, rfl⟩
  go_wp2_with fail
  go_ret2
  exact ⟨rfl, rfl⟩
 ·go_enter Tryz.func105, Tryz.ntmps105
  go_wp2_with fail
  refine (word_no a _ ha (by omega)).mono ?_
  rintro e w' ⟨rfl, rfl⟩
  go_wp2_with fail
  go_ret2
  exact ⟨rfl, rfl⟩
theorem u8_ne (b : UInt8) : ((b.toNat : Int) != 0) = (b != 0) := by
 rw [Bool.eq_iff_iff, bne_iff_ne, bne_iff_ne]
 constructor
 ·intro h e; subst e; exact h rfl
 ·intro h e; exact h (UInt8.toNat_inj.1 (show b.toNat = (0 : UInt8).toNat from by simpa using e))
def rightB (l : List UInt8) : Bool := match l with | [] => true | b :: _ => b != 0
set_option maxHeartbeats 400000 in
theorem right_any (a : List UInt8) (w : World) (ha : a.length ≤ maxLen) :
  Calls Tryz.prog 112 #[S a] w fun e w' => e = .returned (.bool (rightB a)) ∧ w' = w := by
 unfold maxLen at ha
 rcases a with _ | ⟨b, l⟩
 ·go_enter Tryz.func112, Tryz.ntmps112
  go_wp2_with fail
  go_ret
  exact ⟨rfl, rfl⟩
 ·go_enter Tryz.func112, Tryz.ntmps112
  go_wp2_with fail
  go_ret
  exact ⟨ret_bool (u8_ne b), rfl⟩
theorem Tryz.info5 : (Tryz.prog.info? 5).map (fun i => (i.zero, i.size, i.bytes)) = some (some (.int .u8 0), 1, 1) := by kernel_rfl
/-- The eight bytes of a word. -/
def be8 (x : Nat) : List UInt8 := [UInt8.ofNat (x / 72057594037927936), UInt8.ofNat (x / 281474976710656), UInt8.ofNat (x / 1099511627776), UInt8.ofNat (x / 4294967296), UInt8.ofNat (x / 16777216), UInt8.ofNat (x / 65536), UInt8.ofNat (x / 256), UInt8.ofNat x]
theorem Y_of (x : Nat) (z : Int) (h : z = (x : Int) % 256) : Value.int .u8 z = Y (UInt8.ofNat x) := by
 subst h
 unfold Y
 congr 1
theorem be8_vals (x : Nat) (hx : x < 18446744073709551616) : [Value.int .u8 ((x : Int) / 72057594037927936), .int .u8 ((x : Int) / 281474976710656 % 256), .int .u8 ((x : Int) / 1099511627776 % 256), .int .u8 ((x : Int) / 4294967296 % 256), .int .u8 ((x : Int) / 16777216 % 256), .int .u8 ((x : Int) / 65536 % 256), .int .u8 ((x : Int) / 256 % 256), .int .u8 ((x : Int) % 256)] = (be8 x).map Y := by
 simp only [be8, List.map_cons, List.map_nil]
 rw [Y_of (x / 72057594037927936) _ (by omega), Y_of (x / 281474976710656) _ (by omega), Y_of (x / 1099511627776) _ (by omega), Y_of (x / 4294967296) _ (by omega), Y_of (x / 16777216) _ (by omega), Y_of (x / 65536) _ (by omega), Y_of (x / 256) _ (by omega), Y_of x _ (by omega)]
set_option maxRecDepth 100000 in
set_option maxHeartbeats 400000 in
theorem appendWord_any (x g n cap : Nat) (t : TypeId) (cs : List Value) (w : World) (hx : x < 18446744073709551616) (hB : Blk w g t cs) (hc : n + 8 ≤ cs.length) (hr : n + 8 ≤ cap) (_hm : cap ≤ maxLen) :
  Calls Tryz.prog 169 #[.slice (some ⟨g, 0, none⟩) n cap, U x] w fun e w' =>
   e = .returned (.slice (some ⟨g, 0, none⟩) ((n + 8 : Nat)) cap) ∧ Blk w' g t (cs.take n ++ (be8 x).map Y ++ cs.drop (n + 8)) ∧ Ch w.heap.size (· = g) w w' := by
 have hlt := hB.lt
 obtain ⟨i0, hi, hz0, hz1, hz2⟩ := info_parts Tryz.info5
 have HB := Lib.hid hB; clear hB
 go_enter Tryz.func169, Tryz.ntmps169
 go_wp2_with (at_builtin; go_loud (refine wpList_append_blk _ rfl _ _ 87 rfl 5 i0 Tryz.underlying87 hi hz1 g n cap t cs rfl (HB.out.alloc _) ⟨w.heap.size, 0, none⟩ 8 8 _ rfl (by rfl) (Blk.new _ _ _).adds (by simp [one_int]) hr hc ?_; intro w' hB' hC'))
 go_ret
 exact ⟨rfl, by rw [← be8_vals x hx]; exact hB'.cast (by simp), ((Ch.refl _ _ w).alloc (Nat.le_refl _) _).step hC' (Nat.le_refl _) (fun _ _ q => q)⟩
theorem bitLen_iff (x k : Nat) (hx : x < 18446744073709551616) (hk : k ≤ 64) : Lib.bitLen x ≤ k ↔ x < 2 ^ k := by
 constructor
 ·intro h
  rcases Nat.lt_or_ge x (2 ^ k) with q | q
  ·exact q
  ·have h1 := Lib.bitLen_shift k x q hx
   have h2 : 1 ≤ x / 2 ^ k := (Nat.one_le_div_iff (Nat.two_pow_pos k)).2 q
   have h3 := Lib.bitLen_half (x / 2 ^ k) (by omega) (Nat.lt_of_le_of_lt (Nat.div_le_self _ _) hx)
   omega
 ·exact Lib.bitLen_le x k hk
/-- The zeros in front of a word's digits to the base 2. -/
def lz (x : Nat) : Nat := 64 - Lib.bitLen x
theorem bitLen_64 (x : Nat) (hx : x < 18446744073709551616) : Lib.bitLen x ≤ 64 := (bitLen_iff x 64 hx (Nat.le_refl _)).2 hx
theorem lz_any (x : Nat) (w : World) (hx : x < 18446744073709551616) :
  Calls Tryz.prog 170 #[U x] w fun e w' => e = .returned (.int .i64 (lz x : Nat)) ∧ w' = w :=
 (Tryz.bits_LeadingZeros64 (x : Int) w (by omega) (by omega)).mono fun e w' h => ⟨by
  have := bitLen_64 x hx
  rw [h.1, Int.toNat_natCast, lz]
  exact ret_int (by omega), h.2⟩
theorem pow256 (k : Nat) : 256 ^ k = 2 ^ (8 * k) := by rw [Nat.pow_mul]
theorem nb_len_bits (x : Nat) (hx : x < 18446744073709551616) : (nb x).length = (Lib.bitLen x + 7) / 8 := by
 have h64 := bitLen_64 x hx
 have key : ∀ k, k ≤ 8 → ((nb x).length ≤ k ↔ Lib.bitLen x ≤ 8 * k) := fun k hk => by
  rw [nb_len, bitLen_iff x (8 * k) hx (by omega), pow256]
 have h8 := (key 8 (Nat.le_refl _)).2 (by omega)
 have h1 := (key (nb x).length h8).1 (Nat.le_refl _)
 rcases Nat.eq_zero_or_pos (nb x).length with h0 | h0
 ·omega
 ·have h2 := key ((nb x).length - 1) (by omega)
  omega
theorem bv_be8 (x : Nat) (hx : x < 18446744073709551616) : bv (be8 x) = x := by
 simp only [be8, bv, List.foldl_cons, List.foldl_nil, UInt8.toNat_ofNat']
 omega
theorem be8_len (x : Nat) : (be8 x).length = 8 := rfl
theorem trim_be8 (x : Nat) (hx : x < 18446744073709551616) : trimL (be8 x) = nb x := by rw [← nb_bv, bv_be8 x hx]
theorem trim_drop (l : List UInt8) : trimL l = l.drop (l.length - (trimL l).length) :=
 List.suffix_iff_eq_drop.1 (List.dropWhile_suffix _)
theorem be8_drop (x : Nat) (hx : x < 18446744073709551616) : (be8 x).drop (lz x / 8) = nb x := by
 have h := trim_drop (be8 x)
 rw [trim_be8 x hx, be8_len, nb_len_bits x hx] at h
 have h64 := bitLen_64 x hx
 rw [show lz x / 8 = 8 - (Lib.bitLen x + 7) / 8 from by unfold lz; omega]
 exact h.symm
set_option maxRecDepth 100000 in
set_option maxHeartbeats 400000 in
theorem wordNat_any (x : Nat) (w : World) (hx : x < 18446744073709551616) :
  Calls Tryz.prog 136 #[U x] w fun e w' => e = .returned (S (nb x)) ∧ Ch w.heap.size none1 w w' := by
 have hl : lz x ≤ 64 := Nat.sub_le _ _
 by_cases h8 : lz x = 64
 ·have hd := be8_drop x hx
  rw [h8] at hd
  have hd0 : nb x = [] := by rw [← hd]; simp [be8]
  have hL := lz_any x
  rw [h8] at hL
  have HL := Lib.hid hL; clear hL
  have HD := Lib.hid hd0; clear hd0 hd h8
  go_enter Tryz.func136, Tryz.ntmps136
  go_wp2_with fail
  refine (appendWord_any x _ 0 8 _ _ _ hx (Blk.new _ _ _) (by decide) (by decide) (by decide)).mono ?_
  rintro e w1 ⟨rfl, hB, hC⟩
  have hB2 : Blk w1 w.heap.size 160 ((be8 x).map Y) := hB.cast (by simp)
  have hcv := run_convert_blk (P := Tryz.prog) w1 87 24 5 Tryz.underlying87 Tryz.underlying5 Tryz.underlying24 w.heap.size 0 0 0 [] 160 _ hB2 rfl (fun i hi => absurd hi (by simp))
  clear hB
  go_wp2_with fail
  refine (HL.out _ hx).mono ?_
  rintro e w' ⟨rfl, rfl⟩
  go_wp2_with fail
  go_ret
  exact ⟨ret_S HD.out.symm, ((Ch.refl _ _ w).alloc (Nat.le_refl _) _).step hC (Nat.le_refl _) (fun k hk q => absurd q (by omega))⟩
 ·have hq : lz x / 8 < 8 := by omega
  have hd := be8_drop x hx
  have hL := lz_any x
  generalize lz x = m at *
  have HL := Lib.hid hL; clear hL
  have HD := Lib.hid hd; clear hd
  go_enter Tryz.func136, Tryz.ntmps136
  go_wp2_with fail
  refine (appendWord_any x _ 0 8 _ _ _ hx (Blk.new _ _ _) (by decide) (by decide) (by decide)).mono ?_
  rintro e w1 ⟨rfl, hB, hC⟩
  have hB2 : Blk w1 w.heap.size 160 ((be8 x).map Y) := hB.cast (by simp)
  have hcv := run_convert_blk (P := Tryz.prog) w1 87 24 5 Tryz.underlying87 Tryz.underlying5 Tryz.underlying24 w.heap.size (m / 8) (8 - m / 8) (8 - m / 8) (nb x) 160 _ hB2
   (by rw [← HD.out, List.length_drop, be8_len]) (fun i hi => by
    have e := HD.out
    simp only [← e, List.getElem?_map, List.getElem_drop]
    rw [List.getElem?_eq_getElem (by rw [← e, List.length_drop] at hi; omega)]
    rfl)
  clear hB
  go_wp2_with fail
  refine (HL.out _ hx).mono ?_
  rintro e w' ⟨rfl, rfl⟩
  go_wp2_with fail
  go_ret
  exact ⟨rfl, ((Ch.refl _ _ w).alloc (Nat.le_refl _) _).step hC (Nat.le_refl _) (fun k hk q => absurd q (by omega))⟩
set_option maxHeartbeats 400000 in
theorem of_any (n : Int) (w : World) (h0 : 0 ≤ n) (h1 : n ≤ 9223372036854775807) :
  Calls Tryz.prog 109 #[.int .i64 n] w fun e w' => e = .returned (S (nb n.toNat)) ∧ Ch w.heap.size none1 w w' := by
 obtain ⟨m, rfl⟩ := Int.eq_ofNat_of_zero_le h0
 go_enter Tryz.func109, Tryz.ntmps109
 go_wp2_with fail
 refine (wordNat_any m _ (by omega)).mono ?_
 rintro e w1 ⟨rfl, hC⟩
 go_wp2_with fail
 go_ret
 exact ⟨by simp, hC⟩
set_option maxHeartbeats 400000 in
theorem of_neg (n : Int) (w : World) (h0 : n < 0) (_h1 : -9223372036854775808 ≤ n) :
  Calls Tryz.prog 109 #[.int .i64 n] w fun e w' => e = .returned (S []) ∧ w' = w := by
 go_enter Tryz.func109, Tryz.ntmps109
 go_wp2_with fail
 go_ret
 exact ⟨rfl, rfl⟩
/-- -1, 0 or 1. -/
def cmpN (a b : Nat) : Int := if a < b then -1 else if b < a then 1 else 0
set_option maxHeartbeats 400000 in
theorem isNaN_nat (a : List UInt8) (w : World) : Calls Tryz.prog 200 #[S a] w fun e w' => e = .returned (.bool false) ∧ w' = w := by
 go_enter Tryz.func200, Tryz.ntmps200
 go_wp2_with fail
 go_ret
 exact ⟨rfl, rfl⟩
theorem bytesLess_bv : ∀ (a b : List UInt8), a.length = b.length → (Op.bytesLess a b = true ↔ bv a < bv b)
 | [], [], _ => by simp [Op.bytesLess]
 | [], _ :: _, h => by simp at h
 | _ :: _, [], h => by simp at h
 | x :: a, y :: b, h => by
  have hl : a.length = b.length := by simpa using h
  have ih := bytesLess_bv a b hl
  have h1 := bv_lt a
  have h2 := bv_lt b
  rw [bv_cons, bv_cons, hl]
  rw [hl] at h1
  have mul : ∀ p q : Nat, p < q → p * 256 ^ b.length + 256 ^ b.length ≤ q * 256 ^ b.length := fun p q hpq => by
   have := Nat.mul_le_mul_right (256 ^ b.length) (show p + 1 ≤ q from hpq)
   rw [Nat.add_mul] at this; omega
  rcases Nat.lt_trichotomy x.toNat y.toNat with q | q | q
  ·have := mul _ _ q
   simp [Op.bytesLess, UInt8.lt_iff_toNat_lt, q]
   omega
  ·have e : x = y := UInt8.toNat_inj.1 q
   subst e
   simp [Op.bytesLess, ih]
  ·have := mul _ _ q
   have hn : ¬ x = y := fun e => by subst e; omega
   simp [Op.bytesLess, UInt8.lt_iff_toNat_lt, hn]
   omega
theorem cmpN_lt {a b : Nat} (h : a < b) : cmpN a b = -1 := if_pos h
theorem cmpN_gt {a b : Nat} (h : b < a) : cmpN a b = 1 := by unfold cmpN; rw [if_neg (by omega), if_pos h]
theorem cmpN_eq {a b : Nat} (h : a = b) : cmpN a b = 0 := by unfold cmpN; rw [if_neg (by omega), if_neg (by omega)]
set_option maxHeartbeats 400000 in
theorem cmpNat_same (a b : List UInt8) (w : World) (h : a.length = b.length) :
  Calls Tryz.prog 174 #[S a, S b] w fun e w' => e = .returned (.int .i64 (cmpN (bv a) (bv b))) ∧ w' = w := by
 have key := bytesLess_bv a b h
 have inj := bv_inj a b h
 have H := Lib.hid h; clear h
 have K := Lib.hid key; clear key
 have J := Lib.hid inj; clear inj
 go_enter Tryz.func174, Tryz.ntmps174
 go_wp2_with (first | (go_at_call 200; refine (isNaN_nat _ _).mono ?_; rintro e w' ⟨rfl, rfl⟩))
 ·have h1 : Op.bytesLess a b = true := by assumption
  go_ret
  exact ⟨ret_int (cmpN_lt (K.out.1 h1)).symm, rfl⟩
 ·have h1 : ¬ bv a < bv b := fun q => by have := K.out.2 q; simp_all
  have h2 : ¬ a = b := by intro e; subst e; simp_all
  have h3 : ¬ bv a = bv b := fun q => h2 (J.out q)
  go_ret
  exact ⟨ret_int (cmpN_gt (by omega)).symm, rfl⟩
 ·have h2 : a = b := by
   have : (!a == b) = false := by assumption
   simpa using this
  go_ret
  exact ⟨ret_int (cmpN_eq (by rw [h2])).symm, rfl⟩
theorem trim_lt_of_len (a b : List UInt8) (h : (trimL a).length < (trimL b).length) : bv a < bv b := by
 have h1 := trim_len b (trimL a).length
 have h2 := (trim_len a (trimL a).length).1 (Nat.le_refl _)
 omega
set_option maxHeartbeats 400000 in
theorem cmp_any (a b : List UInt8) (w : World) (ha : a.length ≤ maxLen) (hb : b.length ≤ maxLen) :
  Calls Tryz.prog 141 #[S a, S b] w fun e w' => e = .returned (.int .i64 (cmpN (bv a) (bv b))) ∧ w' = w := by
 have ha1 := Nat.le_trans (trimL_len a) ha
 have hb1 := Nat.le_trans (trimL_len b) hb
 unfold maxLen at ha1 hb1
 have hlt := trim_lt_of_len a b
 have hgt := trim_lt_of_len b a
 have HL := Lib.hid hlt; clear hlt
 have HG := Lib.hid hgt; clear hgt
 by_cases he : (trimL a).length = (trimL b).length
 ·have HE := Lib.hid he
  have he' : ((((trimL a).length : Nat) : Int) != ((trimL b).length : Nat)) = false := by simp [he]
  clear he
  go_enter Tryz.func141, Tryz.ntmps141
  go_wp2_with fail
  refine (trimmed_any a _ ha).mono ?_
  rintro e w' ⟨rfl, rfl⟩
  go_wp2_with fail
  refine (trimmed_any b _ hb).mono ?_
  rintro e w' ⟨rfl, rfl⟩
  go_wp2_with fail
  refine (cmpNat_same _ _ _ HE.out).mono ?_
  rintro e w' ⟨rfl, rfl⟩
  go_wp2_with fail
  go_ret
  exact ⟨ret_int (by simp only [bv_trim]), rfl⟩
 ·have he' : ((((trimL a).length : Nat) : Int) != ((trimL b).length : Nat)) = true := by simp; omega
  have HE := Lib.hid he; clear he
  go_enter Tryz.func141, Tryz.ntmps141
  go_wp2_with fail
  refine (trimmed_any a _ ha).mono ?_
  rintro e w' ⟨rfl, rfl⟩
  go_wp2_with fail
  refine (trimmed_any b _ hb).mono ?_
  rintro e w' ⟨rfl, rfl⟩
  go_wp2_with fail
  refine (Tryz.cmp_Compare_int _ _ _).mono ?_
  rintro e w' ⟨rfl, rfl⟩
  go_wp2_with fail
  go_ret
  refine ⟨ret_int ?_, rfl⟩
  have hL := HL.out
  have hG := HG.out
  have hE := HE.out
  unfold Lib.compareInt
  by_cases q : (trimL a).length < (trimL b).length
  ·rw [if_pos (by omega), cmpN_lt (hL q)]
  ·rw [if_neg (by omega), if_pos (by omega), cmpN_gt (hG (by omega))]
end Go.Proofs.YtkeomlpecjjhiaaGreatDoor
namespace Go.Proofs.YtkeomlpecjjhiaaGreatDoor
open Go.RowKit
theorem Tryz.info52 : (Tryz.prog.info? 125).map (fun i => (i.zero, i.size, i.bytes)) = some (some (.int .u64 0), 1, 8) := by kernel_rfl
theorem len8_is (b : UInt8) (m : Nat) (w : World) (h : Lib.bitLen b.toNat = m) :
  Calls Tryz.prog 128 #[.int .u8 (b.toNat : Int)] w fun e w' => e = .returned (.int .i64 (m : Nat)) ∧ w' = w := by
 have := u8_lt b
 have := Tryz.bits_Len8 (b.toNat : Int) w (by omega) (by omega)
 rw [Int.toNat_natCast, h] at this
 exact this
set_option maxHeartbeats 400000 in
theorem bits_any (a : List UInt8) (w : World) (ha : a.length ≤ 1152921504606846975) :
  Calls Tryz.prog 78 #[S a] w fun e w' => e = .returned (.int .i64 (nbits (bv a) : Nat)) ∧ w' = w := by
 have ha1 := trimL_len a
 by_cases h0 : trimL a = []
 ·have H0 := Lib.hid h0
  go_enter Tryz.func78, Tryz.ntmps78
  go_wp2_with fail
  refine (trimmed_any a _ (by unfold maxLen; omega)).mono ?_
  rintro e w' ⟨rfl, rfl⟩
  go_wp2_with fail
  go_ret
  exact ⟨ret_nat (by rw [(trimL_nil_iff a).1 H0.out, nbits_zero]), rfl⟩
 ·obtain ⟨b, l, h1⟩ : ∃ b l, trimL a = b :: l := by
   cases h : trimL a with
   | nil => exact absurd h h0
   | cons b l => exact ⟨b, l, rfl⟩
  clear h0
  have hl : l.length + 1 ≤ a.length := by rw [h1] at ha1; simpa using ha1
  have hT := trimmed_any a
  rw [h1] at hT
  have HT := Lib.hid hT; clear hT
  have hb0 : ¬ b = 0 := by
   have := rt_trim a
   rw [h1] at this
   rcases this with q | ⟨c, m, q, hc⟩
   ·simp at q
   ·simp only [List.cons.injEq] at q
    rw [q.1]; exact hc
  have hb1 : b.toNat ≠ 0 := fun q => hb0 (UInt8.toNat_inj.1 q)
  have hb2 := u8_lt b
  obtain ⟨m, hm⟩ : ∃ m, Lib.bitLen b.toNat = m := ⟨_, rfl⟩
  have k1 := bitLen_iff b.toNat m (by omega)
  have k2 := bitLen_iff b.toNat (m - 1) (by omega)
  have k3 := bitLen_iff b.toNat 8 (by omega) (by omega)
  have k4 := bitLen_iff b.toNat 0 (by omega) (by omega)
  rw [hm] at k1 k2 k3 k4
  have m8 : m ≤ 8 := k3.2 (by simpa using hb2)
  have m1 : 1 ≤ m := by
   rcases Nat.eq_zero_or_pos m with q | q
   ·have := k4.1 (by omega); simp at this; omega
   ·exact q
  have hres : nbits (bv a) = 8 * l.length + m := by
   rw [← bv_trim, h1]
   exact nbits_byte b l m ((k1 (by omega)).1 (Nat.le_refl _)) (by have := k2 (by omega); omega) m1
  have HR := Lib.hid hres; clear hres
  have HM := Lib.hid hm; clear hm k1 k2 k3 k4 h1
  go_enter Tryz.func78, Tryz.ntmps78
  go_wp2_with fail
  refine (HT.out _ (by unfold maxLen; omega)).mono ?_
  rintro e w' ⟨rfl, rfl⟩
  go_wp2_with fail
  refine (len8_is _ m _ HM.out).mono ?_
  rintro e w' ⟨rfl, rfl⟩
  go_wp2_with fail
  go_ret
  exact ⟨ret_int (by rw [HR.out]; omega), rfl⟩
set_option maxRecDepth 100000 in
set_option maxHeartbeats 400000 in
theorem digitsOf_any (a : List UInt8) (w : World) (ha : a.length ≤ 140737488351232) :
  Calls Tryz.prog 137 #[S a] w fun e w' => ∃ g, e = .returned (.slice (some ⟨g, 0, none⟩) (ds (bv a)).length (ds (bv a)).length) ∧ Blk w' g 125 ((ds (bv a)).map U) ∧ w.heap.size ≤ g ∧ Ch w.heap.size none1 w w' := by
 have ha1 := trimL_len a
 obtain ⟨i0, hi, hz0, hz1, hz2⟩ := info_parts Tryz.info52
 have hlen : ((trimL a).length + 7) / 8 ≤ 17592186043905 := by omega
 obtain ⟨n, hn⟩ : ∃ n, ((trimL a).length + 7) / 8 = n := ⟨_, rfl⟩
 rw [hn] at hlen
 have hn2 : (((trimL a).length : Int) + 7) / 8 = (n : Int) := by omega
 have HN := Lib.hid hn; clear hn
 have HN2 := Lib.hid hn2; clear hn2
 go_enter Tryz.func137, Tryz.ntmps137
 go_wp2_with fail
 refine (trimmed_any a _ (by unfold maxLen; omega)).mono ?_
 rintro e w' ⟨rfl, rfl⟩
 go_wp2_with (refine wpList_make_blk _ rfl _ _ 132 rfl 125 i0 .u64 0 Tryz.underlying132 hi hz0 hz1 .i64 .i64 _ _ n rfl rfl HN2.out HN2.out (by rw [hz2]; omega) (by unfold maxLen; omega) ?_; intro w1 hB hC)
 have hl := ds_len_bytes a
 have hl2 : (ds (bv a)).length = n := hl.trans HN.out
 have HL := Lib.hid hl2; clear hl hl2
 obtain ⟨wo, rfl⟩ : ∃ wo : World, wo = w' := ⟨_, rfl⟩
 go_loopw [15] (fun i wr => ∃ k : Nat, k ≤ n ∧ i = .int .i64 k ∧ Blk wr wo.heap.size 125 (((ds (bv a)).map U).take k ++ List.replicate (n - k) (U 0)) ∧ Ch wo.heap.size none1 wo wr) (fun i _ => n - (intOf i).toNat)
 case atStart => exact ⟨0, Nat.zero_le _, rfl, hB, hC⟩
 case round =>
  obtain ⟨k, hk, rfl, hB', hC'⟩ := hrel
  by_cases hlt : k < n
  ·have hn3 : 8 * k < (trimL a).length := by have := HN.out; omega
   have c : wr.cell? ⟨wo.heap.size, k, none⟩ = some (U 0) := by
    rw [hB'.cell k, List.getElem?_append_right (by rw [List.length_take]; omega), List.length_take, List.length_map, HL.out, Nat.min_eq_left hk, Nat.sub_self, show n - k = (n - k - 1) + 1 from by omega, List.replicate_succ]
    rfl
   have f := hB'.frozen k
   have hv0 : bv (((trimL a).take ((trimL a).length - 8 * k)).drop ((trimL a).length - 8 * k - 8)) = (ds (bv a))[k]'(by rw [HL.out]; exact hlt) := ds_chunk a k _ rfl (by rw [HL.out]; exact hlt)
   obtain ⟨v, hv⟩ : ∃ v, (ds (bv a))[k]'(by rw [HL.out]; exact hlt) = v := ⟨_, rfl⟩
   rw [hv] at hv0
   have HV := Lib.hid hv; clear hv
   have HV0 := Lib.hid hv0; clear hv0
   have hmax : (max (((trimL a).length : Int) - 8 * (k : Int) - 8) 0).toNat = (trimL a).length - 8 * k - 8 := by rw [Int.max_def]; split <;> omega
   have HM := Lib.hid hmax; clear hmax
   have hsz : min ((trimL a).length - 8 * k) (trimL a).length - ((trimL a).length - 8 * k - 8) ≤ 8 := by omega
   have HS := Lib.hid hsz; clear hsz
   go_wp2_with (go_at_call 171; refine (wordOf_is _ v _ ?_ ?_).mono ?_)
   ·rw [ext_size, List.length_drop, List.length_take, HM.out]; exact HS.out
   ·rw [ext_list, ← HV0.out, HM.out]
   rintro e w1' ⟨rfl, rfl⟩
   go_wp2
   go_roundw
   case rel =>
    refine ⟨k + 1, by omega, by go_num, (hB'.set k (U v)).cast ?_, hC'.setCell (.inl (Nat.le_refl _)) _⟩
    exact fill_set _ k n _ _ hlt (by rw [List.length_map]; exact HL.out) (by
     rw [List.getElem?_map, List.getElem?_eq_getElem (by rw [HL.out]; exact hlt), HV.out]; rfl)
   case measure => simp [intOf]; omega
  ·have hkn : k = n := by omega
   have HK := Lib.hid hkn; clear hkn
   go_wp2
   go_ret
   refine ⟨wo.heap.size, ?_, hB'.cast ?_, Nat.le_refl _, hC'⟩
   ·rw [HL.out]; rfl
   ·rw [HK.out, Nat.sub_self, List.replicate_zero, List.append_nil, List.take_of_length_le (by rw [List.length_map, HL.out]; exact Nat.le_refl _)]
/-- The bytes of digits, the most significant digit first. -/
def bytesOf (xs : List Nat) : List UInt8 := xs.reverse.flatMap be8
theorem bytesOf_cons (x : Nat) (xs : List Nat) : bytesOf (x :: xs) = bytesOf xs ++ be8 x := by simp [bytesOf]
theorem bytesOf_len (xs : List Nat) : (bytesOf xs).length = 8 * xs.length := by
 induction xs with
 | nil => rfl
 | cons x xs ih => rw [bytesOf_cons, List.length_append, ih, be8_len, List.length_cons]; omega
theorem bv_bytesOf (xs : List Nat) (h : Dok xs) : bv (bytesOf xs) = dv xs := by
 induction xs with
 | nil => rfl
 | cons x xs ih =>
  have h1 := h x (List.mem_cons_self ..)
  rw [bytesOf_cons, bv_append, ih (fun y hy => h y (List.mem_cons_of_mem _ hy)), be8_len, bv_be8 x h1, dv_cons, show (256 : Nat) ^ 8 = D from by decide, Nat.mul_comm]
  omega
set_option maxRecDepth 100000 in
set_option maxHeartbeats 400000 in
theorem natural_any (p : Option Addr) (n cap : Nat) (xs : List Nat) (w : World) (hd : Dg w p n xs) (hn : n ≤ 17592186044416) :
  Calls Tryz.prog 139 #[.slice p n cap] w fun e w' => e = .returned (S (nb (dv xs))) ∧ Ch w.heap.size none1 w w' := by
 obtain ⟨i0, hi, hz0, hz1, hz2⟩ := info_parts Tryz.info5
 have hN2 : (8 * (n : Int)) = ((8 * n : Nat) : Int) := by omega
 have HN2 := Lib.hid hN2; clear hN2
 have hxl := hd.len
 have hxl2 : xs.length ≤ 17592186044416 := by omega
 have HX := Lib.hid hxl; clear hxl
 have HD := Lib.hid hd; clear hd
 go_enter Tryz.func139, Tryz.ntmps139
 go_wp2_with (refine wpList_make_cap _ rfl _ _ 87 rfl 5 i0 .u8 0 Tryz.underlying87 hi hz0 hz1 .i64 .i64 _ (8 * n) rfl rfl HN2.out (by rw [hz2]; omega) (by unfold maxLen; omega) ?_; intro w1 cs0 hB hL hC)
 obtain ⟨wo, rfl⟩ : ∃ wo : World, wo = w := ⟨_, rfl⟩
 have HL := Lib.hid hL; clear hL
 go_loopw [3, 4] (fun b i wr => ∃ k : Nat, k ≤ n ∧ i = .int .i64 ((n : Int) - 1 - k) ∧ b = .slice (some ⟨wo.heap.size, 0, none⟩) (8 * k) (8 * n) ∧
   (∃ cs, Blk wr wo.heap.size 5 cs ∧ cs.length = 8 * n ∧ cs.take (8 * k) = (bytesOf (xs.drop (n - k))).map Y) ∧ Ch wo.heap.size none1 wo wr) (fun _ i _ => (intOf i + 1).toNat)
 case atStart =>
  refine ⟨0, Nat.zero_le _, by go_num, rfl, ⟨cs0, hB, HL.out, ?_⟩, hC⟩
  rw [List.drop_of_length_le (by rw [HX.out]; omega)]; rfl
 case round =>
  obtain ⟨k, hk, rfl, rfl, ⟨cs, hB', hL', hT'⟩, hC'⟩ := hrel
  have HL' := Lib.hid hL'; clear hL'
  have HT' := Lib.hid hT'; clear hT'
  by_cases hlt : k < n
  ·obtain ⟨g, o, rfl⟩ := HD.out.addr (by omega)
   have hdd := Dg.ch hC' HD.out (fun a ha => ⟨HD.out.lt_size a ha, fun q => q⟩)
   have hg := hdd.get (n - 1 - k) (by omega)
   have hx1 := HD.out.lt _ (List.getElem_mem (l := xs) (n := n - 1 - k) (by rw [HX.out]; omega))
   obtain ⟨x, hx⟩ : ∃ x, xs[n - 1 - k]'(by rw [HX.out]; omega) = x := ⟨_, rfl⟩
   rw [hx] at hg hx1
   have HXX := Lib.hid hx; clear hx
   clear hdd
   have e1 : ((n : Int) - 1 - k).toNat = n - 1 - k := by omega
   go_wp2_with fail
   refine (appendWord_any x _ (8 * k) (8 * n) _ cs _ hx1 hB' (by rw [HL'.out]; omega) (by omega) (by unfold maxLen; omega)).mono ?_
   rintro e w2 ⟨rfl, hB2, hC2⟩
   go_wp2_with fail
   go_roundw
   case rel =>
    refine ⟨k + 1, by omega, by go_num, rfl, ⟨_, hB2, ?_, ?_⟩, hC'.step hC2 (Nat.le_refl _) (fun j hj q => absurd q (by omega))⟩
    ·have := HL'.out
     simp only [List.length_append, List.length_take, List.length_map, be8_len, List.length_drop]
     omega
    ·have hc : n - k = (n - 1 - k) + 1 := by omega
     have hd2 : xs.drop (n - (k + 1)) = x :: xs.drop (n - k) := by
      rw [hc, show n - (k + 1) = n - 1 - k from by omega, List.drop_eq_getElem_cons (by rw [HX.out]; omega), HXX.out]
     rw [hd2, bytesOf_cons, List.map_append, ← HT'.out]
     refine List.take_left' ?_
     have := HL'.out
     simp only [List.length_append, List.length_take, List.length_map, be8_len]
     omega
   case measure => simp [intOf]; omega
  ·have hkn : k = n := by omega
   have hl3 : (bytesOf xs).length = 8 * k := by rw [bytesOf_len, HX.out, hkn]
   have ht3 : cs.take (8 * k) = (bytesOf xs).map Y := by rw [HT'.out, hkn, Nat.sub_self, List.drop_zero]
   have hcv := run_convert_blk (P := Tryz.prog) wr 87 24 5 Tryz.underlying87 Tryz.underlying5 Tryz.underlying24 wo.heap.size 0 (8 * k) (8 * n) (bytesOf xs) 5 cs hB' hl3 (fun i hi => by
    have h1 := congrArg (·[i]?) ht3
    simp only [List.getElem?_take, List.getElem?_map] at h1
    rw [if_pos (by omega), List.getElem?_eq_getElem hi] at h1
    rw [Nat.zero_add, h1]; rfl)
   have HKN := Lib.hid hkn; clear hkn ht3
   have H3 := Lib.hid hl3; clear hl3
   go_wp2_with fail
   refine (trimmed_any _ _ (by rw [H3.out]; unfold maxLen; omega)).mono ?_
   rintro e w' ⟨rfl, rfl⟩
   go_wp2_with fail
   go_ret
   exact ⟨ret_S (trimL_of_nb (bv_bytesOf xs HD.out.lt)), hC'⟩
end Go.Proofs.YtkeomlpecjjhiaaGreatDoor
namespace Go.Proofs.YtkeomlpecjjhiaaGreatDoor
open Go.RowKit
theorem getD_of_lt (xs : List Nat) (k : Nat) (h : k < xs.length) : xs.getD k 0 = xs[k] := by simp [h]
theorem tlen_step (xs : List Nat) (k : Nat) (hk : k < xs.length) (h0 : xs[k] = 0) (ht : tlen xs ≤ k + 1) : tlen xs ≤ k := by
 rw [tlen_iff] at ht ⊢
 intro j hj
 rcases Nat.eq_or_lt_of_le hj with e | e
 ·subst e; rw [getD_of_lt xs k hk, h0]
 ·exact ht j e
theorem tlen_stop (xs : List Nat) (k : Nat) (hk : k < xs.length) (h0 : xs[k] ≠ 0) (ht : tlen xs ≤ k + 1) : tlen xs = k + 1 := by
 rcases Nat.lt_or_ge k (tlen xs) with h | h
 ·omega
 ·have := (tlen_iff xs k).1 h k (Nat.le_refl _)
  rw [getD_of_lt xs k hk] at this
  exact absurd this h0
def slLen : Value → Nat | .slice _ k _ => k | _ => 0
set_option maxHeartbeats 400000 in
theorem dtrim_any (p : Option Addr) (n cap : Nat) (xs : List Nat) (w : World) (hd : Dg w p n xs) (hc : n ≤ cap) (hm : cap ≤ maxLen) :
  Calls Tryz.prog 178 #[.slice p n cap] w fun e w' => e = .returned (.slice p (tlen xs) cap) ∧ w' = w := by
 unfold maxLen at hm
 have hxl := hd.len
 have htl := tlen_le xs
 rw [hxl] at htl
 have HX := Lib.hid hxl; clear hxl
 have HD := Lib.hid hd; clear hd
 go_enter Tryz.func178, Tryz.ntmps178
 go_wp2_with fail
 go_loop [0] (fun v => ∃ k : Nat, tlen xs ≤ k ∧ k ≤ n ∧ v = .slice p k cap) (fun v => slLen v)
 case atStart => exact ⟨n, htl, Nat.le_refl _, rfl⟩
 case round =>
  obtain ⟨k, hk1, hk2, rfl⟩ := hrel
  rcases k with _ | k
  ·go_wp2_with fail
   go_ret
   refine ⟨?_, rfl⟩
   have : tlen xs = 0 := by omega
   rw [this]; rfl
  ·have hkl : k < xs.length := by rw [HX.out]; omega
   obtain ⟨g, o, rfl⟩ := HD.out.addr (by omega)
   have hg := HD.out.get k (by omega)
   obtain ⟨x, hx⟩ : ∃ x, xs[k] = x := ⟨_, rfl⟩
   rw [hx] at hg
   by_cases h0 : x = 0
   ·subst h0
    have ht := tlen_step xs k hkl hx hk1
    have HXX := Lib.hid hx; clear hx
    go_wp2_with fail
    go_round
    case rel => exact ⟨k, ht, by omega, rfl⟩
    case measure => simp [slLen]
   ·have ht := tlen_stop xs k hkl (by rw [hx]; exact h0) hk1
    have HXX := Lib.hid hx; clear hx
    have HT := Lib.hid ht; clear ht
    have hb : (((x : Nat) : Int) == 0) = false := by simp; omega
    go_wp2_with fail
    go_ret
    exact ⟨by rw [HT.out]; rfl, rfl⟩
theorem add64_run (x y c : Nat) (hc : c ≤ 1) (w : World) :
  (callFunc 135 #[U x, U y, U c]).run Tryz.prog w = .ok (.value (.tuple #[U ((x + y + c) % D), U ((x + y + c) / D)])) w := by
 rw [run_callFunc_extern Tryz.func135 (by kernel_rfl) (by kernel_rfl) (by kernel_rfl) (e := add64Entry) (by kernel_rfl), run_add64 x y c (by omega) (by omega) (by omega) (by omega)]
 simp only [Result.andThen]
 congr 5 <;> (unfold D; omega)
theorem add64_run0 (x y : Nat) (w : World) :
  (callFunc 135 #[U x, U y, .int .u64 0]).run Tryz.prog w = .ok (.value (.tuple #[U ((x + y) % D), U ((x + y) / D)])) w :=
 add64_run x y 0 (by omega) w
theorem sub64_run (x y c : Nat) (hc : c ≤ 1) (w : World) :
  (callFunc 181 #[U x, U y, U c]).run Tryz.prog w = .ok (.value (.tuple #[U ((x + D - y - c) % D), U (if x < y + c then 1 else 0)])) w := by
 rw [run_callFunc_extern Tryz.func181 (by kernel_rfl) (by kernel_rfl) (by kernel_rfl) (e := sub64Entry) (by kernel_rfl), run_sub64 x y c hc]
 rfl
theorem mid_get (pre post : List Value) (zs rest : List Nat) (x o k : Nat) (ho : pre.length = o) (hk : zs.length = k) : (pre ++ (zs ++ x :: rest).map U ++ post)[o + k]? = some (U x) := by
 subst ho hk
 rw [List.append_assoc, List.getElem?_append_right (by omega), List.map_append, List.append_assoc, List.getElem?_append_right (by simp)]
 simp
theorem mid_set (pre post : List Value) (zs rest : List Nat) (x v o k : Nat) (ho : pre.length = o) (hk : zs.length = k) : (pre ++ (zs ++ x :: rest).map U ++ post).set (o + k) (U v) = pre ++ ((zs ++ [v]) ++ rest).map U ++ post := by
 subst ho hk
 rw [List.append_assoc, List.set_append_right _ _ (by omega), List.map_append, List.append_assoc, List.set_append_right _ _ (by simp)]
 simp
theorem add_step' (B P x y c s q dz dx dy : Nat) (h : dz + P * c = dx + dy) (hs : s + B * q = x + y + c) : (dz + P * s) + P * B * q = (dx + P * x) + (dy + P * y) := by
 have : P * (s + B * q) = P * (x + y + c) := by rw [hs]
 grind
theorem add_step (P x y c dz dx dy : Nat) (h : dz + P * c = dx + dy) : (dz + P * ((x + y + c) % D)) + P * D * ((x + y + c) / D) = (dx + P * x) + (dy + P * y) :=
 add_step' D P x y c _ _ dz dx dy h (Nat.mod_add_div (x + y + c) D)
theorem addWord_end (xs zs : List Nat) (k n c c' : Nat) (hn : xs.length = n) (hk : k ≤ n) (hz : zs.length = k) (hv : dv zs + D ^ k * c' = dv (xs.take k) + c) (he : c' = 0 ∨ k = n) :
  dv (zs ++ xs.drop k) + D ^ n * c' = dv xs + c := by
 have h1 := dv_take_drop xs k (by omega)
 rw [dv_append, hz, h1]
 rcases he with rfl | rfl
 ·simp at hv ⊢; omega
 ·rw [List.drop_of_length_le (by omega)]; simp [dv] at hv ⊢; omega
theorem wd_len (xs zs : List Nat) (k n : Nat) (hn : xs.length = n) (hk : k ≤ n) (hz : zs.length = k) : (zs ++ xs.drop k).length = n := by
 rw [List.length_append, List.length_drop]; omega
theorem ne_bool {c : Nat} (h : ¬ c = 0) : (((c : Nat) : Int) != 0) = true := by rw [bne_iff_ne]; omega
set_option maxRecDepth 100000 in
set_option maxHeartbeats 400000 in
theorem addWord_any (c n cap g o : Nat) (t : TypeId) (pre post : List Value) (xs : List Nat) (w : World) (hx : Dok xs) (hn : xs.length = n) (hm : n ≤ maxLen) (hc : c < D)
  (hB : Blk w g t (pre ++ xs.map U ++ post)) (ho : pre.length = o) :
  Calls Tryz.prog 172 #[.slice (some ⟨g, o, none⟩) n cap, U c] w fun e w' => ∃ c' zs, e = .returned (U c') ∧ c' < D ∧ Dok zs ∧ zs.length = n ∧ dv zs + D ^ n * c' = dv xs + c ∧
   Blk w' g t (pre ++ zs.map U ++ post) ∧ Ch w.heap.size (· = g) w w' := by
 unfold maxLen at hm
 have HN := Lib.hid hn; clear hn
 have HO := Lib.hid ho; clear ho
 go_enter Tryz.func172, Tryz.ntmps172
 go_wp2_with fail
 obtain ⟨wo, rfl⟩ : ∃ wo : World, wo = w := ⟨_, rfl⟩
 go_loopw [1, 5] (fun cv i wr => ∃ (k : Nat) (c' : Nat) (zs : List Nat), k ≤ n ∧ c' < D ∧ i = .int .i64 k ∧ cv = U c' ∧ Dok zs ∧ zs.length = k ∧ dv zs + D ^ k * c' = dv (xs.take k) + c ∧ Blk wr g t (pre ++ (zs ++ xs.drop k).map U ++ post) ∧ Ch wo.heap.size (· = g) wo wr)
  (fun _ i _ => n - (intOf i).toNat)
 case atStart => exact ⟨0, c, [], Nat.zero_le _, hc, rfl, rfl, Dok.nil, rfl, by simp [dv], by simpa using hB, Ch.refl _ _ _⟩
 case round =>
  obtain ⟨k, c', zs, hk, hc', rfl, rfl, hz, hzl, hzv, hB', hC'⟩ := hrel
  have HZ := Lib.hid hzl; clear hzl
  have HV := Lib.hid hzv; clear hzv
  by_cases h0 : c' = 0
  ·subst h0
   have hend := addWord_end xs zs k n c 0 HN.out hk HZ.out HV.out (.inl rfl)
   have HE := Lib.hid hend; clear hend
   by_cases hlt : k < n
   all_goals
    go_wp2_with fail
    go_ret
    exact ⟨0, _, rfl, D_pos, hz.append (hx.drop k), wd_len xs zs k n HN.out hk HZ.out, HE.out, hB', hC'⟩
  ·by_cases hlt : k < n
   ·have hb := ne_bool h0
    have hkl : k < xs.length := by rw [HN.out]; exact hlt
    have hdr := List.drop_eq_getElem_cons hkl
    have hts := dv_take_succ xs k hkl
    obtain ⟨x, hx1⟩ : ∃ x, xs[k] = x := ⟨_, rfl⟩
    rw [hx1] at hdr hts
    rw [hdr] at hB'
    have HT := Lib.hid hts; clear hts
    have HX := Lib.hid hx1; clear hx1 hdr
    have cl : wr.cell? ⟨g, o + k, none⟩ = some (U x) := by rw [hB'.cell]; exact mid_get pre post zs _ x o k HO.out HZ.out
    have f := hB'.frozen (o + k)
    have hadd := add64_run0 x c'
    have hst := add_step (D ^ k) x 0 c' (dv zs) (dv (xs.take k)) c HV.out
    have hsm := Nat.mod_lt (x + 0 + c') D_pos
    have hq : (x + 0 + c') / D ≤ 1 := by
     have h1 : x < D := by rw [← HX.out]; exact hx.get k hkl
     have : (x + 0 + c') < 2 * D := by omega
     have := Nat.div_lt_of_lt_mul (m := x + 0 + c') (n := D) (k := 2) (by omega)
     omega
    rw [Nat.add_zero] at hst hsm hq
    generalize (x + c') % D = s at *
    generalize (x + c') / D = q at *
    have HS := Lib.hid hst; clear hst
    go_wp2_with fail
    go_roundw
    case rel =>
     refine ⟨k + 1, q, zs ++ [s], by omega, by unfold D; omega, by go_num, rfl, hz.append (Dok.cons hsm Dok.nil), by rw [List.length_append, HZ.out]; rfl, ?_, ?_, hC'.setCell (.inr rfl) _⟩
     ·rw [dv_snoc, HZ.out, HT.out, Nat.pow_succ]
      have := HS.out
      omega
     ·exact (hB'.set (o + k) (U s)).cast (mid_set pre post zs _ x s o k HO.out HZ.out)
    case measure => simp [intOf]; omega
   ·have hkn : k = n := by omega
    have hend := addWord_end xs zs k n c c' HN.out hk HZ.out HV.out (.inr hkn)
    have HE := Lib.hid hend; clear hend
    clear hkn
    go_wp2_with fail
    go_ret
    exact ⟨c', _, rfl, hc', hz.append (hx.drop k), wd_len xs zs k n HN.out hk HZ.out, HE.out, hB', hC'⟩
end Go.Proofs.YtkeomlpecjjhiaaGreatDoor
namespace Go.Proofs.YtkeomlpecjjhiaaGreatDoor
open Go.RowKit
theorem add_end (zs ys zs2 xs : List Nat) (n m c c' : Nat) (hn : xs.length = n) (hm : m ≤ n) (hz : zs.length = m) (h1 : dv zs + D ^ m * c = dv (xs.take m) + dv ys) (h2 : dv zs2 + D ^ (n - m) * c' = dv (xs.drop m) + c) :
  dv (zs ++ zs2) + D ^ n * c' = dv xs + dv ys := by
 have h3 := dv_take_drop xs m (by omega)
 have hD : D ^ n = D ^ m * D ^ (n - m) := by rw [← Nat.pow_add]; congr 1; omega
 rw [dv_append, hz, h3, hD]
 generalize D ^ m = p at *
 generalize D ^ (n - m) = q at *
 have : p * (dv zs2 + q * c') = p * (dv (xs.drop m) + c) := by rw [h2]
 grind
theorem blk_split {w : World} {g : Nat} {t : TypeId} {pre post : List Value} {zs ys : List Nat} (h : Blk w g t (pre ++ (zs ++ ys).map U ++ post)) : Blk w g t ((pre ++ zs.map U) ++ ys.map U ++ post) := h.cast (by simp)
theorem blk_join {w : World} {g : Nat} {t : TypeId} {pre post : List Value} {zs ys : List Nat} (h : Blk w g t ((pre ++ zs.map U) ++ ys.map U ++ post)) : Blk w g t (pre ++ (zs ++ ys).map U ++ post) := h.cast (by simp)
theorem blk_end {w : World} {g : Nat} {t : TypeId} {pre post : List Value} {zs : List Nat} (h : Blk w g t (pre ++ zs.map U ++ post)) : Blk w g t (pre ++ ([] : List Nat).map U ++ (zs.map U ++ post)) := h.cast (by simp)
theorem blk_end' {w : World} {g : Nat} {t : TypeId} {pre post : List Value} {zs ys : List Nat} (h : Blk w g t (pre ++ ys.map U ++ (zs.map U ++ post))) (hy : ys.length = 0) : Blk w g t (pre ++ zs.map U ++ post) := by
 have : ys = [] := List.eq_nil_of_length_eq_zero hy
 subst this
 exact h.cast (by simp)
set_option maxRecDepth 100000 in
set_option maxHeartbeats 400000 in
theorem add_any (n m cap capy g o : Nat) (t : TypeId) (p : Option Addr) (pre post : List Value) (xs ys : List Nat) (w : World) (hx : Dok xs) (hn : xs.length = n) (hm : cap ≤ maxLen) (hnc : n ≤ cap) (hmn : m ≤ n)
  (hB : Blk w g t (pre ++ xs.map U ++ post)) (ho : pre.length = o) (hd : Dg w p m ys) (hne : ∀ a, p = some a → a.block ≠ g) :
  Calls Tryz.prog 138 #[.slice (some ⟨g, o, none⟩) n cap, .slice p m capy] w fun e w' => ∃ c' zs, e = .returned (U c') ∧ c' < D ∧ Dok zs ∧ zs.length = n ∧ dv zs + D ^ n * c' = dv xs + dv ys ∧
   Blk w' g t (pre ++ zs.map U ++ post) ∧ Ch w.heap.size (· = g) w w' := by
 unfold maxLen at hm
 have HN := Lib.hid hn; clear hn
 have HO := Lib.hid ho; clear ho
 have HD := Lib.hid hd; clear hd
 have HY := Lib.hid HD.out.len
 go_enter Tryz.func138, Tryz.ntmps138
 go_wp2_with fail
 obtain ⟨wo, rfl⟩ : ∃ wo : World, wo = w := ⟨_, rfl⟩
 go_loopw [4, 9] (fun cv i wr => ∃ (k : Nat) (c' : Nat) (zs : List Nat), k ≤ m ∧ c' ≤ 1 ∧ i = .int .i64 k ∧ cv = U c' ∧ Dok zs ∧ zs.length = k ∧ dv zs + D ^ k * c' = dv (xs.take k) + dv (ys.take k) ∧ Blk wr g t (pre ++ (zs ++ xs.drop k).map U ++ post) ∧ Ch wo.heap.size (· = g) wo wr)
  (fun _ i _ => m - (intOf i).toNat)
 case atStart => exact ⟨0, 0, [], Nat.zero_le _, by omega, rfl, rfl, Dok.nil, rfl, by simp [dv], by simpa using hB, Ch.refl _ _ _⟩
 case round =>
  obtain ⟨k, c', zs, hk, hc', rfl, rfl, hz, hzl, hzv, hB', hC'⟩ := hrel
  have HZ := Lib.hid hzl; clear hzl
  have HV := Lib.hid hzv; clear hzv
  by_cases hlt : k < m
  ·obtain ⟨gy, oy, rfl⟩ := HD.out.addr (by omega)
   have hkl : k < xs.length := by rw [HN.out]; omega
   have hky : k < ys.length := by rw [HY.out]; exact hlt
   have hyg := (Dg.ch hC' HD.out (fun a ha => ⟨HD.out.lt_size a ha, hne a ha⟩)).get k hlt
   have hdr := List.drop_eq_getElem_cons hkl
   have hts := dv_take_succ xs k hkl
   have hty := dv_take_succ ys k hky
   have hyb := HD.out.lt _ (List.getElem_mem hky)
   obtain ⟨x, hx1⟩ : ∃ x, xs[k] = x := ⟨_, rfl⟩
   obtain ⟨y, hy1⟩ : ∃ y, ys[k] = y := ⟨_, rfl⟩
   have hxb : x < D := by rw [← hx1]; exact hx.get k hkl
   rw [hx1] at hdr hts
   rw [hy1] at hyg hty hyb
   rw [hdr] at hB'
   have HT := Lib.hid hts; clear hts
   have HTY := Lib.hid hty; clear hty
   clear hx1 hy1 hdr
   have cl : wr.cell? ⟨g, o + k, none⟩ = some (U x) := by rw [hB'.cell]; exact mid_get pre post zs _ x o k HO.out HZ.out
   have f := hB'.frozen (o + k)
   have hadd := add64_run x y c' hc'
   have hst := add_step (D ^ k) x y c' (dv zs) (dv (xs.take k)) (dv (ys.take k)) HV.out
   have hsm := Nat.mod_lt (x + y + c') D_pos
   have hq : (x + y + c') / D ≤ 1 := by
    have : (x + y + c') < 2 * D := by unfold D at *; omega
    have := Nat.div_lt_of_lt_mul (m := x + y + c') (n := D) (k := 2) (by omega)
    omega
   generalize (x + y + c') % D = s at *
   generalize (x + y + c') / D = q at *
   have HS := Lib.hid hst; clear hst
   go_wp2_with fail
   go_roundw
   case rel =>
    refine ⟨k + 1, q, zs ++ [s], by omega, hq, by go_num, rfl, hz.append (Dok.cons hsm Dok.nil), by rw [List.length_append, HZ.out]; rfl, ?_, ?_, hC'.setCell (.inr rfl) _⟩
    ·rw [dv_snoc, HZ.out, HT.out, HTY.out, Nat.pow_succ]
     exact HS.out
    ·exact (hB'.set (o + k) (U s)).cast (mid_set pre post zs _ x s o k HO.out HZ.out)
   case measure => simp [intOf]; omega
  ·obtain rfl : k = m := by omega
   have hyt : ys.take k = ys := List.take_of_length_le (by rw [HY.out]; exact Nat.le_refl _)
   have hv2 := HV.out
   rw [hyt] at hv2
   have HV2 := Lib.hid hv2; clear hv2 hyt
   by_cases hmc : k < cap
   ·go_wp2_with fail
    refine (addWord_any c' (n - k) (cap - k) g (o + k) t _ post _ _ (hx.drop k) (by rw [List.length_drop, HN.out]) (by unfold maxLen; omega) (by unfold D; omega) (blk_split hB') (by rw [List.length_append, List.length_map, HO.out, HZ.out])).mono ?_
    rintro e w2 ⟨c2, zs2, rfl, hc2, hz2, hzl2, hzv2, hB2, hC2⟩
    have HZ2 := Lib.hid hzl2; clear hzl2
    have HV3 := Lib.hid hzv2; clear hzv2
    go_wp2_with fail
    go_ret
    exact ⟨c2, zs ++ zs2, rfl, hc2, hz.append hz2, by rw [List.length_append, HZ.out, HZ2.out]; omega, add_end zs ys zs2 xs n k c' c2 HN.out hmn HZ.out HV2.out HV3.out, blk_join hB2, hC'.step hC2 (Nat.le_refl _) (fun _ _ q => q)⟩
   ·obtain rfl : k = n := by omega
    obtain rfl : k = cap := by omega
    have hB3 : Blk wr g t (pre ++ zs.map U ++ post) := hB'.cast (by rw [List.drop_of_length_le (by rw [HN.out]; exact Nat.le_refl _), List.append_nil])
    have hxt : xs.take k = xs := List.take_of_length_le (by rw [HN.out]; exact Nat.le_refl _)
    have hv3 := HV2.out
    rw [hxt] at hv3
    have HV3 := Lib.hid hv3; clear hv3 hxt
    go_wp2_with fail
    refine (addWord_any c' 0 0 g o t pre _ [] _ Dok.nil rfl (by decide) (by unfold D; omega) (blk_end hB3) HO.out).mono ?_
    rintro e w2 ⟨c2, zs2, rfl, hc2, hz2, hzl2, hzv2, hB2, hC2⟩
    have HZ2 := Lib.hid hzl2; clear hzl2
    have HV4 := Lib.hid hzv2; clear hzv2
    go_wp2_with fail
    go_ret
    refine ⟨c2, zs, rfl, hc2, hz, HZ.out, ?_, blk_end' hB2 HZ2.out, hC'.step hC2 (Nat.le_refl _) (fun _ _ q => q)⟩
    have h4 := HV4.out
    rw [List.eq_nil_of_length_eq_zero HZ2.out] at h4
    simp [dv] at h4
    rw [h4]; exact HV3.out
end Go.Proofs.YtkeomlpecjjhiaaGreatDoor
namespace Go.Proofs.YtkeomlpecjjhiaaGreatDoor
open Go.RowKit
theorem mul_lt_sq (y f : Nat) (hy : y < D) (hf : f < D) : y * f ≤ (D - 1) * (D - 1) := Nat.mul_le_mul (by omega) (by omega)
theorem sq_D : (D - 1) * (D - 1) + 2 * D = D * D + 1 := by decide
theorem carry_lt (q A : Nat) (h : D * q ≤ A) (hA : A < D * D) : q < D := by
 rcases Nat.lt_or_ge q D with h1 | h1
 ·exact h1
 ·have := Nat.mul_le_mul_left D h1
  omega
/-- One digit of a sum with a product. -/
theorem mac (x y f c : Nat) (hx : x < D) (hy : y < D) (hf : f < D) (hc : c < D) :
  y * f / D + (y * f % D + c) / D + (x + (y * f % D + c) % D) / D < D ∧
  (x + (y * f % D + c) % D) % D + D * (y * f / D + (y * f % D + c) / D + (x + (y * f % D + c) % D) / D) = x + y * f + c := by
 have h1 := Nat.mod_add_div (y * f) D
 have h2 := Nat.mod_add_div (y * f % D + c) D
 have h3 := Nat.mod_add_div (x + (y * f % D + c) % D) D
 have h4 := mul_lt_sq y f hy hf
 have h5 := sq_D
 have e : (x + (y * f % D + c) % D) % D + D * (y * f / D + (y * f % D + c) / D + (x + (y * f % D + c) % D) / D) = x + y * f + c := by
  rw [Nat.mul_add, Nat.mul_add]; omega
 refine ⟨carry_lt _ (x + y * f + c) (by omega) (by omega), e⟩
theorem mac_step' (B P f x y c s q dz dx dy : Nat) (h : dz + P * c = dx + dy * f) (hs : s + B * q = x + y * f + c) : (dz + P * s) + P * B * q = (dx + P * x) + (dy + P * y) * f := by
 have : P * (s + B * q) = P * (x + y * f + c) := by rw [hs]
 grind
theorem mac_step (P f x y c s q dz dx dy : Nat) (h : dz + P * c = dx + dy * f) (hs : s + D * q = x + y * f + c) : (dz + P * s) + P * D * q = (dx + P * x) + (dy + P * y) * f :=
 mac_step' D P f x y c s q dz dx dy h hs
theorem mul64_is (y f hi lo : Nat) (w : World) (hy : y < D) (hf : f < D) (h1 : y * f / D = hi) (h2 : y * f % D = lo) :
  Calls Tryz.prog 143 #[U y, U f] w fun e w' => e = .returned (.tuple #[U hi, U lo]) ∧ w' = w := by
 subst h1 h2
 exact Tryz.bits_Mul64 y f hy hf w
theorem num_D {x : Nat} (h : x < D) : x ≤ 18446744073709551615 := by unfold D at h; omega
theorem addp_end (zs ys zs2 xs : List Nat) (n m c c' f : Nat) (hn : xs.length = n) (hm : m ≤ n) (hz : zs.length = m) (h1 : dv zs + D ^ m * c = dv (xs.take m) + dv ys * f) (h2 : dv zs2 + D ^ (n - m) * c' = dv (xs.drop m) + c) :
  dv (zs ++ zs2) + D ^ n * c' = dv xs + dv ys * f := by
 have h3 := dv_take_drop xs m (by omega)
 have hD : D ^ n = D ^ m * D ^ (n - m) := by rw [← Nat.pow_add]; congr 1; omega
 rw [dv_append, hz, h3, hD]
 generalize D ^ m = p at *
 generalize D ^ (n - m) = q at *
 have : p * (dv zs2 + q * c') = p * (dv (xs.drop m) + c) := by rw [h2]
 grind
set_option maxRecDepth 100000 in
set_option maxHeartbeats 800000 in
theorem addProduct_any (n m cap capy g o fa : Nat) (t : TypeId) (p : Option Addr) (pre post : List Value) (xs ys : List Nat) (w : World) (hx : Dok xs) (hn : xs.length = n) (hm : cap ≤ maxLen) (hnc : n ≤ cap) (hmn : m ≤ n) (hf : fa < D)
  (hB : Blk w g t (pre ++ xs.map U ++ post)) (ho : pre.length = o) (hd : Dg w p m ys) (hne : ∀ a, p = some a → a.block ≠ g) :
  Calls Tryz.prog 180 #[.slice (some ⟨g, o, none⟩) n cap, .slice p m capy, U fa] w fun e w' => ∃ c' zs, e = .returned (.tuple #[]) ∧ Dok zs ∧ zs.length = n ∧ dv zs + D ^ n * c' = dv xs + dv ys * fa ∧
   Blk w' g t (pre ++ zs.map U ++ post) ∧ Ch w.heap.size (· = g) w w' := by
 unfold maxLen at hm
 have HN := Lib.hid hn; clear hn
 have HO := Lib.hid ho; clear ho
 have HD := Lib.hid hd; clear hd
 have HY := Lib.hid HD.out.len
 go_enter Tryz.func180, Tryz.ntmps180
 go_wp2_with fail
 obtain ⟨wo, rfl⟩ : ∃ wo : World, wo = w := ⟨_, rfl⟩
 go_loopw [6, 14] (fun cv i wr => ∃ (k : Nat) (c' : Nat) (zs : List Nat), k ≤ m ∧ c' < D ∧ i = .int .i64 k ∧ cv = U c' ∧ Dok zs ∧ zs.length = k ∧ dv zs + D ^ k * c' = dv (xs.take k) + dv (ys.take k) * fa ∧ Blk wr g t (pre ++ (zs ++ xs.drop k).map U ++ post) ∧ Ch wo.heap.size (· = g) wo wr)
  (fun _ i _ => m - (intOf i).toNat)
 case atStart => exact ⟨0, 0, [], Nat.zero_le _, D_pos, rfl, rfl, Dok.nil, rfl, by simp [dv], by simpa using hB, Ch.refl _ _ _⟩
 case round =>
  obtain ⟨k, c', zs, hk, hc', rfl, rfl, hz, hzl, hzv, hB', hC'⟩ := hrel
  have HZ := Lib.hid hzl; clear hzl
  have HV := Lib.hid hzv; clear hzv
  by_cases hlt : k < m
  ·obtain ⟨gy, oy, rfl⟩ := HD.out.addr (by omega)
   have hkl : k < xs.length := by rw [HN.out]; omega
   have hky : k < ys.length := by rw [HY.out]; exact hlt
   have hyg := (Dg.ch hC' HD.out (fun a ha => ⟨HD.out.lt_size a ha, hne a ha⟩)).get k hlt
   have hdr := List.drop_eq_getElem_cons hkl
   have hts := dv_take_succ xs k hkl
   have hty := dv_take_succ ys k hky
   have hyb := HD.out.lt _ (List.getElem_mem hky)
   obtain ⟨x, hx1⟩ : ∃ x, xs[k] = x := ⟨_, rfl⟩
   obtain ⟨y, hy1⟩ : ∃ y, ys[k] = y := ⟨_, rfl⟩
   have hxb : x < D := by rw [← hx1]; exact hx.get k hkl
   rw [hx1] at hdr hts
   rw [hy1] at hyg hty hyb
   rw [hdr] at hB'
   have HT := Lib.hid hts; clear hts
   have HTY := Lib.hid hty; clear hty
   clear hx1 hy1 hdr
   have cl : wr.cell? ⟨g, o + k, none⟩ = some (U x) := by rw [hB'.cell]; exact mid_get pre post zs _ x o k HO.out HZ.out
   have f := hB'.frozen (o + k)
   obtain ⟨hq, hst⟩ := mac x y fa c' hxb hyb hf hc'
   have hmul := fun w => mul64_is y fa _ _ w hyb hf rfl rfl
   have hlo := Nat.mod_lt (y * fa) D_pos
   generalize y * fa / D = hi at *
   generalize y * fa % D = lo at *
   have hadd1 := add64_run0 lo c'
   have hl2 := Nat.mod_lt (lo + c') D_pos
   generalize (lo + c') % D = lo2 at *
   generalize (lo + c') / D = m1 at *
   have hadd2 := add64_run0 x lo2
   have hs2 := Nat.mod_lt (x + lo2) D_pos
   generalize (x + lo2) % D = s at *
   generalize (x + lo2) / D = m2 at *
   have hst2 := mac_step (D ^ k) fa x y c' s (hi + m1 + m2) (dv zs) (dv (xs.take k)) (dv (ys.take k)) HV.out hst
   have HS := Lib.hid hst2; clear hst2 hst
   have hq2 := num_D hq
   have HM := Lib.hid hmul; clear hmul
   go_wp2_with fail
   refine (HM.out _).mono ?_
   rintro e w' ⟨rfl, rfl⟩
   go_wp2_with fail
   go_roundw
   case rel =>
    refine ⟨k + 1, hi + m1 + m2, zs ++ [s], by omega, hq, by go_num, by go_num, hz.append (Dok.cons hs2 Dok.nil), by rw [List.length_append, HZ.out]; rfl, ?_, ?_, hC'.setCell (.inr rfl) _⟩
    ·rw [dv_snoc, HZ.out, HT.out, HTY.out, Nat.pow_succ]
     exact HS.out
    ·exact (hB'.set (o + k) (U s)).cast (mid_set pre post zs _ x s o k HO.out HZ.out)
   case measure => simp [intOf]; omega
  ·obtain rfl : k = m := by omega
   have hyt : ys.take k = ys := List.take_of_length_le (by rw [HY.out]; exact Nat.le_refl _)
   have hv2 := HV.out
   rw [hyt] at hv2
   have HV2 := Lib.hid hv2; clear hv2 hyt
   by_cases hmc : k < cap
   ·go_wp2_with fail
    refine (addWord_any c' (n - k) (cap - k) g (o + k) t _ post _ _ (hx.drop k) (by rw [List.length_drop, HN.out]) (by unfold maxLen; omega) hc' (blk_split hB') (by rw [List.length_append, List.length_map, HO.out, HZ.out])).mono ?_
    rintro e w2 ⟨c2, zs2, rfl, hc2, hz2, hzl2, hzv2, hB2, hC2⟩
    have HZ2 := Lib.hid hzl2; clear hzl2
    have HV3 := Lib.hid hzv2; clear hzv2
    go_wp2_with fail
    go_end0
    exact ⟨c2, zs ++ zs2, rfl, hz.append hz2, by rw [List.length_append, HZ.out, HZ2.out]; omega, addp_end zs ys zs2 xs n k c' c2 fa HN.out hmn HZ.out HV2.out HV3.out, blk_join hB2, hC'.step hC2 (Nat.le_refl _) (fun _ _ q => q)⟩
   ·obtain rfl : k = n := by omega
    obtain rfl : k = cap := by omega
    have hB3 : Blk wr g t (pre ++ zs.map U ++ post) := hB'.cast (by rw [List.drop_of_length_le (by rw [HN.out]; exact Nat.le_refl _), List.append_nil])
    have hxt : xs.take k = xs := List.take_of_length_le (by rw [HN.out]; exact Nat.le_refl _)
    have hv3 := HV2.out
    rw [hxt] at hv3
    have HV3 := Lib.hid hv3; clear hv3 hxt
    go_wp2_with fail
    refine (addWord_any c' 0 0 g o t pre _ [] _ Dok.nil rfl (by decide) hc' (blk_end hB3) HO.out).mono ?_
    rintro e w2 ⟨c2, zs2, rfl, hc2, hz2, hzl2, hzv2, hB2, hC2⟩
    have HZ2 := Lib.hid hzl2; clear hzl2
    have HV4 := Lib.hid hzv2; clear hzv2
    go_wp2_with fail
    go_end0
    refine ⟨c2, zs, rfl, hz, HZ.out, ?_, blk_end' hB2 HZ2.out, hC'.step hC2 (Nat.le_refl _) (fun _ _ q => q)⟩
    have h4 := HV4.out
    rw [List.eq_nil_of_length_eq_zero HZ2.out] at h4
    simp [dv] at h4
    rw [h4]; exact HV3.out
end Go.Proofs.YtkeomlpecjjhiaaGreatDoor
namespace Go.Proofs.YtkeomlpecjjhiaaGreatDoor
open Go.RowKit
theorem sub64_run0 (x y : Nat) (w : World) :
  (callFunc 181 #[U x, U y, .int .u64 0]).run Tryz.prog w = .ok (.value (.tuple #[U ((x + D - y) % D), U (if x < y then 1 else 0)])) w :=
 sub64_run x y 0 (by omega) w
theorem sub64_runz (x c : Nat) (hc : c ≤ 1) (w : World) :
  (callFunc 181 #[U x, .int .u64 0, U c]).run Tryz.prog w = .ok (.value (.tuple #[U ((x + D - 0 - c) % D), U (if x < 0 + c then 1 else 0)])) w :=
 sub64_run x 0 c hc w
theorem sub_one (x y c : Nat) (hx : x < D) (hy : y < D) (hc : c ≤ 1) : (x + D - y - c) % D + y + c = x + D * (if x < y + c then 1 else 0) := by
 unfold D at *
 split <;> omega
theorem sub_bit (p : Prop) [Decidable p] : (if p then 1 else 0 : Nat) ≤ 1 := by split <;> omega
theorem mbc (x y f c : Nat) (hx : x < D) (hy : y < D) (hf : f < D) (hc : c < D) :
  y * f / D + (y * f % D + c) / D + (if x < (y * f % D + c) % D then 1 else 0) < D ∧
  (x + D - (y * f % D + c) % D) % D + y * f + c = x + D * (y * f / D + (y * f % D + c) / D + (if x < (y * f % D + c) % D then 1 else 0)) := by
 have h1 := Nat.mod_add_div (y * f) D
 have h2 := Nat.mod_add_div (y * f % D + c) D
 have h3 := sub_one x ((y * f % D + c) % D) 0 hx (Nat.mod_lt _ D_pos) (by omega)
 have h4 := mul_lt_sq y f hy hf
 have h5 := sq_D
 have h6 := Nat.mod_lt (x + D - (y * f % D + c) % D) D_pos
 simp only [Nat.add_zero, Nat.sub_zero] at h3
 have e : (x + D - (y * f % D + c) % D) % D + y * f + c = x + D * (y * f / D + (y * f % D + c) / D + (if x < (y * f % D + c) % D then 1 else 0)) := by
  rw [Nat.mul_add, Nat.mul_add]; omega
 refine ⟨carry_lt _ ((x + D - (y * f % D + c) % D) % D + y * f + c) (by omega) (by omega), e⟩
theorem mbc_step (B P f x y c s q dz dx dy : Nat) (h : dz + dy * f = dx + P * c) (hs : s + y * f + c = x + B * q) : (dz + P * s) + (dy + P * y) * f = (dx + P * x) + P * B * q := by
 have : P * (s + y * f + c) = P * (x + B * q) := by rw [hs]
 grind
theorem sub_step (B P x y c s q dz dx dy : Nat) (h : dz + dy = dx + P * c) (hs : s + y + c = x + B * q) : (dz + P * s) + (dy + P * y) = (dx + P * x) + P * B * q := by
 have : P * (s + y + c) = P * (x + B * q) := by rw [hs]
 grind
theorem sub_top (B P dz s dy dx x c q P' : Nat) (hP : P' = P * B) (h : dz + dy = dx + P * c) (hs : s + c = x + B * q) : dz + P * s + dy = dx + P * x + P' * q := by
 have : P * (s + c) = P * (x + B * q) := by rw [hs]
 subst hP
 grind
set_option maxRecDepth 100000 in
set_option maxHeartbeats 800000 in
theorem subtractProduct_any (m cap capy g o fa : Nat) (t : TypeId) (p : Option Addr) (pre post : List Value) (xs ys : List Nat) (w : World) (hx : Dok xs) (hn : xs.length = m + 1) (hm : cap ≤ maxLen) (hnc : m + 1 ≤ cap) (hf : fa < D)
  (hB : Blk w g t (pre ++ xs.map U ++ post)) (ho : pre.length = o) (hd : Dg w p m ys) (hne : ∀ a, p = some a → a.block ≠ g) :
  Calls Tryz.prog 218 #[.slice (some ⟨g, o, none⟩) ((m + 1 : Nat)) cap, .slice p m capy, U fa] w fun e w' => ∃ b zs, e = .returned (U b) ∧ b ≤ 1 ∧ Dok zs ∧ zs.length = m + 1 ∧ dv zs + dv ys * fa = dv xs + D ^ (m + 1) * b ∧
   Blk w' g t (pre ++ zs.map U ++ post) ∧ Ch w.heap.size (· = g) w w' := by
 unfold maxLen at hm
 have HN := Lib.hid hn; clear hn
 have HO := Lib.hid ho; clear ho
 have HD := Lib.hid hd; clear hd
 have HY := Lib.hid HD.out.len
 go_enter Tryz.func218, Tryz.ntmps218
 go_wp2_with fail
 obtain ⟨wo, rfl⟩ : ∃ wo : World, wo = w := ⟨_, rfl⟩
 go_loopw [6, 14] (fun cv i wr => ∃ (k : Nat) (c' : Nat) (zs : List Nat), k ≤ m ∧ c' < D ∧ i = .int .i64 k ∧ cv = U c' ∧ Dok zs ∧ zs.length = k ∧ dv zs + dv (ys.take k) * fa = dv (xs.take k) + D ^ k * c' ∧ Blk wr g t (pre ++ (zs ++ xs.drop k).map U ++ post) ∧ Ch wo.heap.size (· = g) wo wr)
  (fun _ i _ => m - (intOf i).toNat)
 case atStart => exact ⟨0, 0, [], Nat.zero_le _, D_pos, rfl, rfl, Dok.nil, rfl, by simp [dv], by simpa using hB, Ch.refl _ _ _⟩
 case round =>
  obtain ⟨k, c', zs, hk, hc', rfl, rfl, hz, hzl, hzv, hB', hC'⟩ := hrel
  have HZ := Lib.hid hzl; clear hzl
  have HV := Lib.hid hzv; clear hzv
  have hkl : k < xs.length := by rw [HN.out]; omega
  have hdr := List.drop_eq_getElem_cons hkl
  have hts := dv_take_succ xs k hkl
  obtain ⟨x, hx1⟩ : ∃ x, xs[k] = x := ⟨_, rfl⟩
  have hxb : x < D := by rw [← hx1]; exact hx.get k hkl
  rw [hx1] at hdr hts
  rw [hdr] at hB'
  have HT := Lib.hid hts; clear hts
  have HDR := Lib.hid hdr; clear hdr
  clear hx1
  have cl : wr.cell? ⟨g, o + k, none⟩ = some (U x) := by rw [hB'.cell]; exact mid_get pre post zs _ x o k HO.out HZ.out
  have f := hB'.frozen (o + k)
  by_cases hlt : k < m
  ·obtain ⟨gy, oy, rfl⟩ := HD.out.addr (by omega)
   have hky : k < ys.length := by rw [HY.out]; exact hlt
   have hyg := (Dg.ch hC' HD.out (fun a ha => ⟨HD.out.lt_size a ha, hne a ha⟩)).get k hlt
   have hty := dv_take_succ ys k hky
   have hyb := HD.out.lt _ (List.getElem_mem hky)
   obtain ⟨y, hy1⟩ : ∃ y, ys[k] = y := ⟨_, rfl⟩
   rw [hy1] at hyg hty hyb
   have HTY := Lib.hid hty; clear hty
   clear hy1
   obtain ⟨hq, hst⟩ := mbc x y fa c' hxb hyb hf hc'
   have hmul := fun w => mul64_is y fa _ _ w hyb hf rfl rfl
   have hlo := Nat.mod_lt (y * fa) D_pos
   generalize y * fa / D = hi at *
   generalize y * fa % D = lo at *
   have hadd1 := add64_run0 lo c'
   have hl2 := Nat.mod_lt (lo + c') D_pos
   generalize (lo + c') % D = lo2 at *
   generalize (lo + c') / D = m1 at *
   have hadd2 := sub64_run0 x lo2
   have hs2 := Nat.mod_lt (x + D - lo2) D_pos
   generalize (x + D - lo2) % D = s at *
   generalize (if x < lo2 then 1 else 0) = m2 at *
   have hst2 := mbc_step D (D ^ k) fa x y c' s (hi + m1 + m2) (dv zs) (dv (xs.take k)) (dv (ys.take k)) HV.out hst
   have HS := Lib.hid hst2; clear hst2 hst
   have hq2 := num_D hq
   have HM := Lib.hid hmul; clear hmul
   go_wp2_with fail
   refine (HM.out _).mono ?_
   rintro e w' ⟨rfl, rfl⟩
   go_wp2_with fail
   go_roundw
   case rel =>
    refine ⟨k + 1, hi + m1 + m2, zs ++ [s], by omega, hq, by go_num, by go_num, hz.append (Dok.cons hs2 Dok.nil), by rw [List.length_append, HZ.out]; rfl, ?_, ?_, hC'.setCell (.inr rfl) _⟩
    ·rw [dv_snoc, HZ.out, HT.out, HTY.out, Nat.pow_succ]
     exact HS.out
    ·exact (hB'.set (o + k) (U s)).cast (mid_set pre post zs _ x s o k HO.out HZ.out)
   case measure => simp [intOf]; omega
  ·obtain rfl : k = m := by omega
   have hyt : ys.take k = ys := List.take_of_length_le (by rw [HY.out]; exact Nat.le_refl _)
   have hxt : xs.take (k + 1) = xs := List.take_of_length_le (by rw [HN.out]; exact Nat.le_refl _)
   have hv2 := HV.out
   have ht2 := HT.out
   rw [hyt] at hv2
   rw [hxt] at ht2
   have hst := sub_one x c' 0 hxb hc' (by omega)
   simp only [Nat.add_zero, Nat.sub_zero] at hst
   have hb := sub_bit (x < c')
   have hadd2 := sub64_run0 x c'
   have hs2 := Nat.mod_lt (x + D - c') D_pos
   generalize (x + D - c') % D = s at *
   generalize (if x < c' then 1 else 0) = q at *
   have hfin : dv (zs ++ [s]) + dv ys * fa = dv xs + D ^ (k + 1) * q := by
    rw [dv_snoc, HZ.out, ht2]
    exact sub_top D (D ^ k) (dv zs) s (dv ys * fa) _ x c' q (D ^ (k + 1)) (Nat.pow_succ D k) hv2 hst
   have HF := Lib.hid hfin; clear hfin hst hv2 ht2 hxt hyt
   go_wp2_with fail
   go_ret
   refine ⟨q, zs ++ [s], rfl, hb, hz.append (Dok.cons hs2 Dok.nil), by rw [List.length_append, HZ.out]; rfl, HF.out, ?_, hC'.setCell (.inr rfl) _⟩
   refine (hB'.set (o + k) (U s)).cast ?_
   rw [mid_set pre post zs _ x s o k HO.out HZ.out, List.drop_of_length_le (by rw [HN.out]; exact Nat.le_refl _), List.append_nil]
end Go.Proofs.YtkeomlpecjjhiaaGreatDoor
namespace Go.Proofs.YtkeomlpecjjhiaaGreatDoor
open Go.RowKit
/-- A call that only computes, met within a region behind another region that has drawn. -/
theorem quiet_more {P : Program} {f : FuncId} {args : Array Value} {w : World} {a n : Nat} {v : Value}
  (h : Calls P f args (w.drewN (a + n)) fun e w' => e = .returned v ∧ w' = w.drewN (a + n)) :
  Calls P f args (w.drewN (a + n)) fun e w'' => e = .returned v ∧ ∃ m, w'' = w.drewN (a + m) :=
 h.mono fun _ _ q => ⟨q.1, n, q.2⟩
set_option maxHeartbeats 400000 in
theorem isNaN_u64 (a : Nat) (w : World) : Calls Tryz.prog 216 #[U a] w fun e w' => e = .returned (.bool false) ∧ w' = w := by
 go_enter Tryz.func216, Tryz.ntmps216
 go_wp2_with fail
 go_ret
 exact ⟨rfl, rfl⟩
set_option maxHeartbeats 400000 in
theorem cmpU_any (a b : Nat) (w : World) :
  Calls Tryz.prog 201 #[U a, U b] w fun e w' => e = .returned (.int .i64 (cmpN a b)) ∧ w' = w := by
 by_cases h1 : a < b
 ·rw [cmpN_lt h1]
  go_enter Tryz.func201, Tryz.ntmps201
  go_wp2_with (go_at_call 216; refine (isNaN_u64 _ _).mono ?_; rintro e w' ⟨rfl, rfl⟩)
  go_ret
  exact ⟨rfl, rfl⟩
 ·by_cases h2 : b < a
  ·rw [cmpN_gt h2]
   go_enter Tryz.func201, Tryz.ntmps201
   go_wp2_with (go_at_call 216; refine (isNaN_u64 _ _).mono ?_; rintro e w' ⟨rfl, rfl⟩)
   go_ret
   exact ⟨rfl, rfl⟩
  ·rw [cmpN_eq (by omega)]
   go_enter Tryz.func201, Tryz.ntmps201
   go_wp2_with (go_at_call 216; refine (isNaN_u64 _ _).mono ?_; rintro e w' ⟨rfl, rfl⟩)
   go_ret
   exact ⟨rfl, rfl⟩
theorem canon_lt (xs ys : List Nat) (hx : Dok xs) (hy : Dok ys) (cx : tlen xs = xs.length) (cy : tlen ys = ys.length) (h : xs.length < ys.length) : dv xs < dv ys := by
 have h1 := trimD xs hx
 have h2 := trimD ys hy
 rw [List.take_of_length_le (by omega)] at h1 h2
 have h3 := (ds_len (dv xs) xs.length).1 (by rw [← h1]; exact Nat.le_refl _)
 have h4 := ds_len (dv ys) xs.length
 rw [← h2] at h4
 omega
theorem cmp_top (xs ys : List Nat) (k : Nat) (hx : Dok xs) (_hy : Dok ys) (hkx : k < xs.length) (hky : k < ys.length) (hl : xs.length = ys.length) (hd : xs.drop (k + 1) = ys.drop (k + 1)) (h : xs[k] < ys[k]) : dv xs < dv ys := by
 have h1 := dv_take_drop xs (k + 1) (by omega)
 have h2 := dv_take_drop ys (k + 1) (by omega)
 have h3 := dv_take_succ xs k hkx
 have h4 := dv_take_succ ys k hky
 have h5 := dv_lt (hx.take k)
 rw [List.length_take, Nat.min_eq_left (by omega)] at h5
 have h6 := Nat.mul_le_mul_left (D ^ k) (show xs[k] + 1 ≤ ys[k] from h)
 rw [Nat.mul_add] at h6
 rw [hd] at h1
 omega
theorem drop_eq_step (xs ys : List Nat) (k : Nat) (hkx : k < xs.length) (hky : k < ys.length) (hd : xs.drop (k + 1) = ys.drop (k + 1)) (h : xs[k] = ys[k]) : xs.drop k = ys.drop k := by
 rw [List.drop_eq_getElem_cons hkx, List.drop_eq_getElem_cons hky, h, hd]
set_option maxRecDepth 100000 in
set_option maxHeartbeats 800000 in
theorem compare_any (p q : Option Addr) (n m capx capy : Nat) (xs ys : List Nat) (w : World) (hx : Dg w p n xs) (hy : Dg w q m ys) (cx : tlen xs = n) (cy : tlen ys = m) (hn : n ≤ 1152921504606846975) (hm : m ≤ 1152921504606846975) :
  Calls Tryz.prog 175 #[.slice p n capx, .slice q m capy] w fun e w' => e = .returned (.int .i64 (cmpN (dv xs) (dv ys))) ∧ Ch w.heap.size none1 w w' := by
 have hxl := hx.len
 have hyl := hy.len
 by_cases he : n = m
 ·subst he
  have HXL := Lib.hid hxl; clear hxl
  have HYL := Lib.hid hyl; clear hyl
  have HX := Lib.hid hx; clear hx
  have HY := Lib.hid hy; clear hy
  clear cx cy
  go_enter Tryz.func175, Tryz.ntmps175
  go_wp2_with fail
  obtain ⟨wo, rfl⟩ : ∃ wo : World, wo = w := ⟨_, rfl⟩
  go_loopw [5] (fun i wr => ∃ (k : Nat), k ≤ n ∧ i = .int .i64 ((k : Int) - 1) ∧ xs.drop k = ys.drop k ∧ Ch wo.heap.size none1 wo wr)
   (fun i _ => (intOf i + 1).toNat)
  case atStart => exact ⟨n, Nat.le_refl _, rfl, by rw [List.drop_of_length_le (by rw [HXL.out]; exact Nat.le_refl _), List.drop_of_length_le (by rw [HYL.out]; exact Nat.le_refl _)], Ch.refl _ _ _⟩
  case round =>
   obtain ⟨k, hk, rfl, hdr, hC'⟩ := hrel
   have HDR := Lib.hid hdr; clear hdr
   rcases k with _ | k
   ·have hxy : xs = ys := by have := HDR.out; simpa using this
    have hc : cmpN (dv xs) (dv ys) = 0 := by rw [hxy]; exact cmpN_eq rfl
    have HC := Lib.hid hc; clear hc hxy
    go_wp2_with fail
    go_ret
    exact ⟨ret_int HC.out.symm, hC'⟩
   ·obtain ⟨gx, ox, rfl⟩ := HX.out.addr (by omega)
    obtain ⟨gy, oy, rfl⟩ := HY.out.addr (by omega)
    have hxg := (Dg.ch hC' HX.out (fun a ha => ⟨HX.out.lt_size a ha, fun q => q⟩)).get k (by omega)
    have hyg := (Dg.ch hC' HY.out (fun a ha => ⟨HY.out.lt_size a ha, fun q => q⟩)).get k (by omega)
    have hkx : k < xs.length := by rw [HXL.out]; omega
    have hky : k < ys.length := by rw [HYL.out]; omega
    have ht1 := cmp_top xs ys k HX.out.lt HY.out.lt hkx hky (HXL.out.trans HYL.out.symm) HDR.out
    have ht2 := cmp_top ys xs k HY.out.lt HX.out.lt hky hkx (HYL.out.trans HXL.out.symm) HDR.out.symm
    have ht3 := drop_eq_step xs ys k hkx hky HDR.out
    obtain ⟨x, hx1⟩ : ∃ x, xs[k] = x := ⟨_, rfl⟩
    obtain ⟨y, hy1⟩ : ∃ y, ys[k] = y := ⟨_, rfl⟩
    rw [hx1] at hxg
    rw [hy1] at hyg
    rw [hx1, hy1] at ht1 ht2 ht3
    clear hx1 hy1
    have e1 : ((k : Int) + 1 - 1) = (k : Int) := by omega
    by_cases hxy : x = y
    ·subst hxy
     have hdr := ht3 rfl
     have HD2 := Lib.hid hdr; clear hdr ht1 ht2 ht3
     go_wp2_with fail
     go_quiet (fail)
     go_wp2_with fail
     go_roundw
     case rel => exact ⟨k, by omega, by go_num, HD2.out, hC'.drewN _⟩
     case measure => simp [intOf]
    ·have hc : cmpN x y = cmpN (dv xs) (dv ys) := by
      rcases Nat.lt_or_gt_of_ne hxy with h | h
      ·rw [cmpN_lt h, cmpN_lt (ht1 h)]
      ·rw [cmpN_gt h, cmpN_gt (ht2 h)]
     have HC := Lib.hid hc; clear hc ht1 ht2 ht3
     have hb : (((x : Nat) : Int) != ((y : Nat) : Int)) = true := by rw [bne_iff_ne]; omega
     clear hxy
     go_wp2_with fail
     go_quiet (fail)
     go_wp2_with fail
     go_quiet ((go_at_call 201; exact quiet_more (cmpU_any _ _ _)))
     go_wp2_with fail
     go_ret
     exact ⟨ret_int HC.out, (hC'.drewN _).drewN _⟩
 ·have hb : (((n : Nat) : Int) != ((m : Nat) : Int)) = true := by rw [bne_iff_ne]; omega
  have hc : Lib.compareInt (n : Int) (m : Int) = cmpN (dv xs) (dv ys) := by
   unfold Lib.compareInt
   rcases Nat.lt_or_gt_of_ne he with h | h
   ·rw [if_pos (by omega), cmpN_lt (canon_lt xs ys hx.lt hy.lt (by rw [cx, hxl]) (by rw [cy, hyl]) (by omega))]
   ·rw [if_neg (by omega), if_pos (by omega), cmpN_gt (canon_lt ys xs hy.lt hx.lt (by rw [cy, hyl]) (by rw [cx, hxl]) (by omega))]
  have HC := Lib.hid hc; clear hc cx cy hxl hyl hx hy he
  go_enter Tryz.func175, Tryz.ntmps175
  go_wp2_with fail
  refine (Tryz.cmp_Compare_int _ _ _).mono ?_
  rintro e w' ⟨rfl, rfl⟩
  go_wp2_with fail
  go_ret
  exact ⟨ret_int HC.out, Ch.refl _ _ _⟩
theorem sub_cont (zs ys xs : List Nat) (n k b : Nat) (hn : xs.length = n) (hk : k ≤ n) (hz : zs.length = k) (hv : dv zs + dv ys = dv (xs.take k) + D ^ k * b) (he : b = 0 ∨ k = n) (_hx : Dok xs) (hzd : Dok zs) (hle : dv ys ≤ dv xs) :
  dv (zs ++ xs.drop k) = dv xs - dv ys := by
 have h1 := dv_take_drop xs k (by omega)
 rw [dv_append, hz]
 rcases he with rfl | rfl
 ·simp at hv; omega
 ·rw [List.take_of_length_le (by omega)] at hv
  rw [List.drop_of_length_le (by omega)]
  have h2 := dv_lt hzd
  rw [hz] at h2
  have h3 : b = 0 := by
   rcases Nat.eq_zero_or_pos b with h | h
   ·exact h
   ·have := Nat.mul_le_mul_left (D ^ k) h
    omega
  subst h3
  simp [dv] at hv ⊢
  omega
set_option maxRecDepth 100000 in
set_option maxHeartbeats 800000 in
theorem subtract_any (n m cap capy g o : Nat) (t : TypeId) (p : Option Addr) (pre post : List Value) (xs ys : List Nat) (w : World) (hx : Dok xs) (hn : xs.length = n) (hm : cap ≤ maxLen) (hnc : n ≤ cap) (hmn : m ≤ n) (hle : dv ys ≤ dv xs)
  (hB : Blk w g t (pre ++ xs.map U ++ post)) (ho : pre.length = o) (hd : Dg w p m ys) (hne : ∀ a, p = some a → a.block ≠ g) :
  Calls Tryz.prog 145 #[.slice (some ⟨g, o, none⟩) n cap, .slice p m capy] w fun e w' => ∃ zs, e = .returned (.tuple #[]) ∧ Dok zs ∧ zs.length = n ∧ dv zs = dv xs - dv ys ∧
   Blk w' g t (pre ++ zs.map U ++ post) ∧ Ch w.heap.size (· = g) w w' := by
 unfold maxLen at hm
 have HN := Lib.hid hn; clear hn
 have HO := Lib.hid ho; clear ho
 have HD := Lib.hid hd; clear hd
 have HY := Lib.hid HD.out.len
 go_enter Tryz.func145, Tryz.ntmps145
 go_wp2_with fail
 obtain ⟨wo, rfl⟩ : ∃ wo : World, wo = w := ⟨_, rfl⟩
 go_loopw [4, 10] (fun cv i wr => ∃ (k : Nat) (c' : Nat) (zs : List Nat), k ≤ m ∧ c' ≤ 1 ∧ i = .int .i64 k ∧ cv = U c' ∧ Dok zs ∧ zs.length = k ∧ dv zs + dv (ys.take k) = dv (xs.take k) + D ^ k * c' ∧ Blk wr g t (pre ++ (zs ++ xs.drop k).map U ++ post) ∧ Ch wo.heap.size (· = g) wo wr)
  (fun _ i _ => m - (intOf i).toNat)
 case atStart => exact ⟨0, 0, [], Nat.zero_le _, by omega, rfl, rfl, Dok.nil, rfl, by simp [dv], by simpa using hB, Ch.refl _ _ _⟩
 case round =>
  obtain ⟨k, c', zs, hk, hc', rfl, rfl, hz, hzl, hzv, hB', hC'⟩ := hrel
  have HZ := Lib.hid hzl; clear hzl
  have HV := Lib.hid hzv; clear hzv
  by_cases hlt : k < m
  ·obtain ⟨gy, oy, rfl⟩ := HD.out.addr (by omega)
   have hkl : k < xs.length := by rw [HN.out]; omega
   have hky : k < ys.length := by rw [HY.out]; exact hlt
   have hyg := (Dg.ch hC' HD.out (fun a ha => ⟨HD.out.lt_size a ha, hne a ha⟩)).get k hlt
   have hdr := List.drop_eq_getElem_cons hkl
   have hts := dv_take_succ xs k hkl
   have hty := dv_take_succ ys k hky
   have hyb := HD.out.lt _ (List.getElem_mem hky)
   obtain ⟨x, hx1⟩ : ∃ x, xs[k] = x := ⟨_, rfl⟩
   obtain ⟨y, hy1⟩ : ∃ y, ys[k] = y := ⟨_, rfl⟩
   have hxb : x < D := by rw [← hx1]; exact hx.get k hkl
   rw [hx1] at hdr hts
   rw [hy1] at hyg hty hyb
   rw [hdr] at hB'
   have HT := Lib.hid hts; clear hts
   have HTY := Lib.hid hty; clear hty
   clear hx1 hy1 hdr
   have cl : wr.cell? ⟨g, o + k, none⟩ = some (U x) := by rw [hB'.cell]; exact mid_get pre post zs _ x o k HO.out HZ.out
   have f := hB'.frozen (o + k)
   have hadd := sub64_run x y c' hc'
   have hst := sub_step D (D ^ k) x y c' _ _ (dv zs) (dv (xs.take k)) (dv (ys.take k)) HV.out (sub_one x y c' hxb hyb hc')
   have hsm := Nat.mod_lt (x + D - y - c') D_pos
   have hq := sub_bit (x < y + c')
   generalize (x + D - y - c') % D = s at *
   generalize (if x < y + c' then 1 else 0) = q at *
   have HS := Lib.hid hst; clear hst
   go_wp2_with fail
   go_roundw
   case rel =>
    refine ⟨k + 1, q, zs ++ [s], by omega, hq, by go_num, rfl, hz.append (Dok.cons hsm Dok.nil), by rw [List.length_append, HZ.out]; rfl, ?_, ?_, hC'.setCell (.inr rfl) _⟩
    ·rw [dv_snoc, HZ.out, HT.out, HTY.out, Nat.pow_succ]
     exact HS.out
    ·exact (hB'.set (o + k) (U s)).cast (mid_set pre post zs _ x s o k HO.out HZ.out)
   case measure => simp [intOf]; omega
  ·obtain rfl : k = m := by omega
   have hyt : ys.take k = ys := List.take_of_length_le (by rw [HY.out]; exact Nat.le_refl _)
   have hv2 := HV.out
   rw [hyt] at hv2
   have HV2 := Lib.hid hv2; clear hv2 hyt
   obtain ⟨m, rfl⟩ : ∃ m : Nat, m = k := ⟨_, rfl⟩
   obtain ⟨w1, rfl⟩ : ∃ w1 : World, w1 = wr := ⟨_, rfl⟩
   go_wp2_with fail
   go_loopw [4, 7] (fun cv i wr => ∃ (k : Nat) (c' : Nat) (zs : List Nat), m ≤ k ∧ k ≤ n ∧ c' ≤ 1 ∧ i = .int .i64 k ∧ cv = U c' ∧ Dok zs ∧ zs.length = k ∧ dv zs + dv ys = dv (xs.take k) + D ^ k * c' ∧ Blk wr g t (pre ++ (zs ++ xs.drop k).map U ++ post) ∧ Ch wo.heap.size (· = g) wo wr)
    (fun _ i _ => n - (intOf i).toNat)
   case atStart => exact ⟨m, c', zs, Nat.le_refl _, hmn, hc', rfl, rfl, hz, HZ.out, HV2.out, hB', hC'⟩
   case round =>
    clear hB' hC' hz
    obtain ⟨k, c', zs, hmk, hk, hc', rfl, rfl, hz, hzl, hzv, hB', hC'⟩ := hrel
    have HZ := Lib.hid hzl; clear hzl
    have HV := Lib.hid hzv; clear hzv
    by_cases h0 : c' = 0
    ·subst h0
     have hend := sub_cont zs ys xs n k 0 HN.out hk HZ.out HV.out (.inl rfl) hx hz hle
     have HE := Lib.hid hend; clear hend
     by_cases hlt : k < n
     all_goals
      go_wp2_with fail
      go_end0
      exact ⟨_, rfl, hz.append (hx.drop k), wd_len xs zs k n HN.out hk HZ.out, HE.out, hB', hC'⟩
    ·by_cases hlt : k < n
     ·have hb := ne_bool h0
      have hkl : k < xs.length := by rw [HN.out]; exact hlt
      have hdr := List.drop_eq_getElem_cons hkl
      have hts := dv_take_succ xs k hkl
      obtain ⟨x, hx1⟩ : ∃ x, xs[k] = x := ⟨_, rfl⟩
      have hxb : x < D := by rw [← hx1]; exact hx.get k hkl
      rw [hx1] at hdr hts
      rw [hdr] at hB'
      have HT := Lib.hid hts; clear hts
      clear hx1 hdr
      have cl : wr.cell? ⟨g, o + k, none⟩ = some (U x) := by rw [hB'.cell]; exact mid_get pre post zs _ x o k HO.out HZ.out
      have f := hB'.frozen (o + k)
      have hadd := sub64_runz x c' hc'
      have hst := sub_step D (D ^ k) x 0 c' _ _ (dv zs) (dv (xs.take k)) (dv ys) HV.out (sub_one x 0 c' hxb D_pos hc')
      have hsm := Nat.mod_lt (x + D - 0 - c') D_pos
      have hq := sub_bit (x < 0 + c')
      generalize (x + D - 0 - c') % D = s at *
      generalize (if x < 0 + c' then 1 else 0) = q at *
      have HS := Lib.hid hst; clear hst
      go_wp2_with fail
      go_roundw
      case rel =>
       refine ⟨k + 1, q, zs ++ [s], by omega, by omega, hq, by go_num, rfl, hz.append (Dok.cons hsm Dok.nil), by rw [List.length_append, HZ.out]; rfl, ?_, ?_, hC'.setCell (.inr rfl) _⟩
       ·rw [dv_snoc, HZ.out, HT.out, Nat.pow_succ]
        have := HS.out
        omega
       ·exact (hB'.set (o + k) (U s)).cast (mid_set pre post zs _ x s o k HO.out HZ.out)
      case measure => simp [intOf]; omega
     ·have hkn : k = n := by omega
      have hend := sub_cont zs ys xs n k c' HN.out hk HZ.out HV.out (.inr hkn) hx hz hle
      have HE := Lib.hid hend; clear hend hkn
      go_wp2_with fail
      go_end0
      exact ⟨_, rfl, hz.append (hx.drop k), wd_len xs zs k n HN.out hk HZ.out, HE.out, hB', hC'⟩
end Go.Proofs.YtkeomlpecjjhiaaGreatDoor
namespace Go.Proofs.YtkeomlpecjjhiaaGreatDoor
open Go.RowKit
theorem own_of_blk {w : World} {B g n cap : Nat} {vs cs : List Value} (h : Blk w g 125 cs) (hl : cs.length = cap) (hn : n ≤ cap) (hm : cap ≤ maxLen) (ht : cs.take n = vs) (hb : B ≤ g) :
  w.ownsRow B 125 1 (.slice (some ⟨g, 0, none⟩) n cap) n vs :=
 ⟨by rw [← ht, List.length_take]; omega, .inr ⟨g, cap, cs.toArray, rfl, hb, h, hn, hm, by simp; omega, by simpa using ht⟩⟩
theorem dg_of_own {w : World} {B n : Nat} {v : Value} {xs : List Nat} (h : w.ownsRow B 125 1 v n (xs.map U)) (hx : Dok xs) :
  ∃ p cap, v = .slice p n cap ∧ Dg w p n xs ∧ n ≤ cap ∧ cap ≤ maxLen ∧ (∀ a, p = some a → B ≤ a.block ∧ a.off = 0) := by
 obtain ⟨h1, h2⟩ := h
 have hl : xs.length = n := by simpa using h1
 rcases h2 with ⟨rfl, rfl⟩ | ⟨g, cap, cur, rfl, hb, hg, hn, hm, hs, ht⟩
 ·exact ⟨none, 0, rfl, ⟨hl, hx, fun _ => rfl, fun a ha => by simp at ha⟩, Nat.le_refl _, by decide, fun a ha => by simp at ha⟩
 ·refine ⟨some ⟨g, 0, none⟩, cap, rfl, ⟨hl, hx, fun q => by simp at q, fun a ha => ?_⟩, hn, hm, fun a ha => ?_⟩
  ·simp only [Option.some.injEq] at ha
   subst ha
   refine ⟨rfl, 125, [], cur.toList.drop n, ?_, rfl⟩
   unfold Blk
   rw [List.nil_append, ← ht, Nat.mul_one, List.take_append_drop]
   simpa using hg
  ·simp only [Option.some.injEq] at ha
   subst ha
   exact ⟨hb, rfl⟩
theorem dg_of_blk {w : World} {g : Nat} {t : TypeId} {xs : List Nat} {post : List Value} (h : Blk w g t (xs.map U ++ post)) (hx : Dok xs) (n : Nat) (hn : xs.length = n) : Dg w (some ⟨g, 0, none⟩) n xs :=
 ⟨hn, hx, fun q => by simp at q, fun a ha => by
  simp only [Option.some.injEq] at ha
  subst ha
  exact ⟨rfl, t, [], post, by simpa using h, rfl⟩⟩
theorem Ch.of_grown_own {w w' : World} {g n cap : Nat} (h : w.grownBy w' (Value.ownBlock (.slice (some ⟨g, 0, none⟩) n cap))) : Ch w.heap.size (· = g) w w' :=
 ⟨h.os, h.tape, h.output, h.size, fun k hk hr => h.block k hk (fun e => hr (by simpa [Value.ownBlock] using e))⟩
/-- The greatest size of a number, in bytes, that these contracts speak of. -/
def LIM : Nat := 70368744177664
theorem ds_lim (a : List UInt8) (h : a.length ≤ LIM) : (ds (bv a)).length ≤ 8796093022208 := by
 have h1 := ds_len_bytes a
 have h2 := trimL_len a
 unfold LIM at h
 omega
set_option maxRecDepth 100000 in
set_option maxHeartbeats 1600000 in
theorem Add_any (a b : List UInt8) (w : World) (ha : a.length ≤ LIM) (hb : b.length ≤ LIM) :
  Calls Tryz.prog 100 #[S a, S b] w fun e w' => e = .returned (S (nb (bv a + bv b))) ∧ Ch w.heap.size none1 w w' := by
 have ham : a.length ≤ maxLen := by unfold LIM at ha; unfold maxLen; omega
 have hbm : b.length ≤ maxLen := by unfold LIM at hb; unfold maxLen; omega
 by_cases hw : bv a < 18446744073709551616 ∧ bv b < 18446744073709551616
 ·obtain ⟨h1, h2⟩ := hw
  have hadd := add64_run0 (bv a) (bv b)
  by_cases hs : bv a + bv b < 18446744073709551616
  ·rw [Nat.mod_eq_of_lt (show bv a + bv b < D from hs), Nat.div_eq_of_lt (show bv a + bv b < D from hs)] at hadd
   have HA := Lib.hid (fun w => wordNat_any (bv a + bv b) w hs)
   generalize hsum : bv a + bv b = sum at *
   have HSUM := Lib.hid hsum; clear hsum
   go_enter Tryz.func100, Tryz.ntmps100
   go_wp2_with fail
   refine (words_yes a b _ ham hbm h1 h2).mono ?_
   rintro e w' ⟨rfl, rfl⟩
   go_wp2_with fail
   refine (HA.out _).mono ?_
   rintro e w2 ⟨rfl, hC⟩
   go_wp2_with fail
   go_ret
   exact ⟨rfl, hC⟩
  ·have hq : (bv a + bv b) / D ≠ 0 := by
    rw [Nat.div_ne_zero_iff]; exact ⟨by unfold D; omega, by unfold D; omega⟩
   generalize hqq : (bv a + bv b) / D = q at *
   generalize hss : (bv a + bv b) % D = s at *
   clear hqq hss
   have hb0 : (((q : Nat) : Int) == 0) = false := by rw [beq_eq_false_iff_ne]; omega
   go_enter Tryz.func100, Tryz.ntmps100
   go_wp2_with fail
   refine (words_yes a b _ ham hbm h1 h2).mono ?_
   rintro e w' ⟨rfl, rfl⟩
   obtain ⟨w, rfl⟩ : ∃ w : World, w = w' := ⟨_, rfl⟩
   clear h1 h2 hs
   go_wp2_with fail
   clear hadd hq hb0
   refine (digitsOf_any a _ (by unfold LIM at ha; omega)).mono ?_
   rintro e w1 ⟨g1, rfl, hB1, hg1, hC1⟩
   go_wp2_with fail
   refine (digitsOf_any b _ (by unfold LIM at hb; omega)).mono ?_
   rintro e w2 ⟨g2, rfl, hB2, hg2, hC2⟩
   have hlt1 := hB1.lt
   have hB1' := hC2.blk hB1 hlt1 (fun q => q)
   have hC := hC1.step0 hC2 (Nat.le_refl _)
   clear hB1 hC1 hC2
   have hXA := dv_ds (bv a)
   have hXB := dv_ds (bv b)
   have hda := dok_ds (bv a)
   have hdb := dok_ds (bv b)
   have hna := ds_lim a ha
   have hnb := ds_lim b hb
   generalize ds (bv a) = xs at *
   generalize ds (bv b) = ys at *
   obtain ⟨n, hn⟩ : ∃ n, xs.length = n := ⟨_, rfl⟩
   obtain ⟨m, hm⟩ : ∃ m, ys.length = m := ⟨_, rfl⟩
   rw [hn] at hna ⊢
   rw [hm] at hnb ⊢
   have HXA := Lib.hid hXA; clear hXA
   have HXB := Lib.hid hXB; clear hXB
   have HN := Lib.hid hn; clear hn
   have HM := Lib.hid hm; clear hm
   by_cases hlen : n < m
   ·go_wp2_with fail
    refine (add_any m n m n g2 0 _ _ [] [] ys xs _ hdb HM.out (by unfold maxLen; omega) (Nat.le_refl _) (by omega) (hB2.cast (by simp)) rfl (dg_of_blk (hB1'.cast (by simp) : Blk _ _ _ (xs.map U ++ [])) hda n HN.out) (fun q hq => by simp only [Option.some.injEq] at hq; subst hq; show g1 ≠ g2; omega)).mono ?_
    rintro e w3 ⟨c, zs, rfl, hc, hz, hzl, hzv, hB3, hC3⟩
    have HZ := Lib.hid hzl; clear hzl
    have HV := Lib.hid hzv; clear hzv
    have hB4 : Blk w3 g2 125 (zs.map U) := hB3.cast (by simp)
    have hown := own_of_blk (B := w.heap.size) hB4 (cap := m) (n := m) (by rw [List.length_map, HZ.out]) (Nat.le_refl _) (by unfold maxLen; omega) (List.take_of_length_le (by rw [List.length_map, HZ.out]; exact Nat.le_refl _)) (by omega)
    have HB3 := Lib.hid hB3; clear hB3 hB4
    have hsz := hC3.size
    have hsz2 := hC.size
    obtain ⟨i0, hi, hz0, hz1, hz2⟩ := info_parts Tryz.info52
    go_wp2_with (at_builtin; refine wpList_append_own _ rfl _ _ 132 rfl w.heap.size 125 i0 (.int .u64 0) 1 8 Tryz.underlying132 hi hz0 hz1 hz2 rfl (by decide) _ m (zs.map U) rfl (hown.alloc _) ⟨w3.heap.size, 0, none⟩ 1 1 [U c] rfl rfl (Blk.new _ #[U c] _).adds (by simp [one_int]) (by unfold maxLen; omega) (by omega) (by simp; omega) ?_; intro v' w4 hown' hgrow _)
    have hz5 : Dok (zs ++ [c]) := hz.append (Dok.cons hc Dok.nil)
    obtain ⟨p, cap, rfl, hd, _, _, _⟩ := dg_of_own (xs := zs ++ [c]) (by simpa using hown') hz5
    clear hown hown'
    have hgr := Ch.of_grown_own hgrow
    clear hgrow
    have hC5 : Ch w.heap.size none1 w w4 := by
     have h3 := hC.step hC3 (Nat.le_refl _) (fun k hk q => absurd q (by omega))
     exact (h3.alloc (by omega) _).step hgr (Nat.le_refl _) (fun k hk q => absurd q (by omega))
    go_wp2_with fail
    refine (natural_any p _ cap _ _ hd (by omega)).mono ?_
    rintro e w5 ⟨rfl, hC6⟩
    go_wp2_with fail
    go_ret
    refine ⟨ret_S ?_, hC5.step0 hC6 (Nat.le_refl _)⟩
    rw [dv_snoc, HZ.out, HV.out, HXA.out, HXB.out, Nat.add_comm]
   ·go_wp2_with fail
    refine (add_any n m n m g1 0 _ _ [] [] xs ys _ hda HN.out (by unfold maxLen; omega) (Nat.le_refl _) (by omega) (hB1'.cast (by simp)) rfl (dg_of_blk (hB2.cast (by simp) : Blk _ _ _ (ys.map U ++ [])) hdb m HM.out) (fun q hq => by simp only [Option.some.injEq] at hq; subst hq; show g2 ≠ g1; omega)).mono ?_
    rintro e w3 ⟨c, zs, rfl, hc, hz, hzl, hzv, hB3, hC3⟩
    have HZ := Lib.hid hzl; clear hzl
    have HV := Lib.hid hzv; clear hzv
    have hB4 : Blk w3 g1 125 (zs.map U) := hB3.cast (by simp)
    have hown := own_of_blk (B := w.heap.size) hB4 (cap := n) (n := n) (by rw [List.length_map, HZ.out]) (Nat.le_refl _) (by unfold maxLen; omega) (List.take_of_length_le (by rw [List.length_map, HZ.out]; exact Nat.le_refl _)) (by omega)
    have HB3 := Lib.hid hB3; clear hB3 hB4
    have hsz := hC3.size
    have hsz2 := hC.size
    obtain ⟨i0, hi, hz0, hz1, hz2⟩ := info_parts Tryz.info52
    go_wp2_with (at_builtin; refine wpList_append_own _ rfl _ _ 132 rfl w.heap.size 125 i0 (.int .u64 0) 1 8 Tryz.underlying132 hi hz0 hz1 hz2 rfl (by decide) _ n (zs.map U) rfl (hown.alloc _) ⟨w3.heap.size, 0, none⟩ 1 1 [U c] rfl rfl (Blk.new _ #[U c] _).adds (by simp [one_int]) (by unfold maxLen; omega) (by omega) (by simp; omega) ?_; intro v' w4 hown' hgrow _)
    have hz5 : Dok (zs ++ [c]) := hz.append (Dok.cons hc Dok.nil)
    obtain ⟨p, cap, rfl, hd, _, _, _⟩ := dg_of_own (xs := zs ++ [c]) (by simpa using hown') hz5
    clear hown hown'
    have hgr := Ch.of_grown_own hgrow
    clear hgrow
    have hC5 : Ch w.heap.size none1 w w4 := by
     have h3 := hC.step hC3 (Nat.le_refl _) (fun k hk q => absurd q (by omega))
     exact (h3.alloc (by omega) _).step hgr (Nat.le_refl _) (fun k hk q => absurd q (by omega))
    go_wp2_with fail
    refine (natural_any p _ cap _ _ hd (by omega)).mono ?_
    rintro e w5 ⟨rfl, hC6⟩
    go_wp2_with fail
    go_ret
    refine ⟨ret_S ?_, hC5.step0 hC6 (Nat.le_refl _)⟩
    rw [dv_snoc, HZ.out, HV.out, HXA.out, HXB.out]
 ·go_enter Tryz.func100, Tryz.ntmps100
  go_wp2_with fail
  refine (words_no a b _ ham hbm hw).mono ?_
  rintro e w' ⟨rfl, rfl⟩
  obtain ⟨w, rfl⟩ : ∃ w : World, w = w' := ⟨_, rfl⟩
  clear hw
  go_wp2_with fail
  refine (digitsOf_any a _ (by unfold LIM at ha; omega)).mono ?_
  rintro e w1 ⟨g1, rfl, hB1, hg1, hC1⟩
  go_wp2_with fail
  refine (digitsOf_any b _ (by unfold LIM at hb; omega)).mono ?_
  rintro e w2 ⟨g2, rfl, hB2, hg2, hC2⟩
  have hlt1 := hB1.lt
  have hB1' := hC2.blk hB1 hlt1 (fun q => q)
  have hC := hC1.step0 hC2 (Nat.le_refl _)
  clear hB1 hC1 hC2
  have hXA := dv_ds (bv a)
  have hXB := dv_ds (bv b)
  have hda := dok_ds (bv a)
  have hdb := dok_ds (bv b)
  have hna := ds_lim a ha
  have hnb := ds_lim b hb
  generalize ds (bv a) = xs at *
  generalize ds (bv b) = ys at *
  obtain ⟨n, hn⟩ : ∃ n, xs.length = n := ⟨_, rfl⟩
  obtain ⟨m, hm⟩ : ∃ m, ys.length = m := ⟨_, rfl⟩
  rw [hn] at hna ⊢
  rw [hm] at hnb ⊢
  have HXA := Lib.hid hXA; clear hXA
  have HXB := Lib.hid hXB; clear hXB
  have HN := Lib.hid hn; clear hn
  have HM := Lib.hid hm; clear hm
  by_cases hlen : n < m
  ·go_wp2_with fail
   refine (add_any m n m n g2 0 _ _ [] [] ys xs _ hdb HM.out (by unfold maxLen; omega) (Nat.le_refl _) (by omega) (hB2.cast (by simp)) rfl (dg_of_blk (hB1'.cast (by simp) : Blk _ _ _ (xs.map U ++ [])) hda n HN.out) (fun q hq => by simp only [Option.some.injEq] at hq; subst hq; show g1 ≠ g2; omega)).mono ?_
   rintro e w3 ⟨c, zs, rfl, hc, hz, hzl, hzv, hB3, hC3⟩
   have HZ := Lib.hid hzl; clear hzl
   have HV := Lib.hid hzv; clear hzv
   have hB4 : Blk w3 g2 125 (zs.map U) := hB3.cast (by simp)
   have hown := own_of_blk (B := w.heap.size) hB4 (cap := m) (n := m) (by rw [List.length_map, HZ.out]) (Nat.le_refl _) (by unfold maxLen; omega) (List.take_of_length_le (by rw [List.length_map, HZ.out]; exact Nat.le_refl _)) (by omega)
   have HB3 := Lib.hid hB3; clear hB3 hB4
   have hsz := hC3.size
   have hsz2 := hC.size
   obtain ⟨i0, hi, hz0, hz1, hz2⟩ := info_parts Tryz.info52
   go_wp2_with (at_builtin; refine wpList_append_own _ rfl _ _ 132 rfl w.heap.size 125 i0 (.int .u64 0) 1 8 Tryz.underlying132 hi hz0 hz1 hz2 rfl (by decide) _ m (zs.map U) rfl (hown.alloc _) ⟨w3.heap.size, 0, none⟩ 1 1 [U c] rfl rfl (Blk.new _ #[U c] _).adds (by simp [one_int]) (by unfold maxLen; omega) (by omega) (by simp; omega) ?_; intro v' w4 hown' hgrow _)
   have hz5 : Dok (zs ++ [c]) := hz.append (Dok.cons hc Dok.nil)
   obtain ⟨p, cap, rfl, hd, _, _, _⟩ := dg_of_own (xs := zs ++ [c]) (by simpa using hown') hz5
   clear hown hown'
   have hgr := Ch.of_grown_own hgrow
   clear hgrow
   have hC5 : Ch w.heap.size none1 w w4 := by
    have h3 := hC.step hC3 (Nat.le_refl _) (fun k hk q => absurd q (by omega))
    exact (h3.alloc (by omega) _).step hgr (Nat.le_refl _) (fun k hk q => absurd q (by omega))
   go_wp2_with fail
   refine (natural_any p _ cap _ _ hd (by omega)).mono ?_
   rintro e w5 ⟨rfl, hC6⟩
   go_wp2_with fail
   go_ret
   refine ⟨ret_S ?_, hC5.step0 hC6 (Nat.le_refl _)⟩
   rw [dv_snoc, HZ.out, HV.out, HXA.out, HXB.out, Nat.add_comm]
  ·go_wp2_with fail
   refine (add_any n m n m g1 0 _ _ [] [] xs ys _ hda HN.out (by unfold maxLen; omega) (Nat.le_refl _) (by omega) (hB1'.cast (by simp)) rfl (dg_of_blk (hB2.cast (by simp) : Blk _ _ _ (ys.map U ++ [])) hdb m HM.out) (fun q hq => by simp only [Option.some.injEq] at hq; subst hq; show g2 ≠ g1; omega)).mono ?_
   rintro e w3 ⟨c, zs, rfl, hc, hz, hzl, hzv, hB3, hC3⟩
   have HZ := Lib.hid hzl; clear hzl
   have HV := Lib.hid hzv; clear hzv
   have hB4 : Blk w3 g1 125 (zs.map U) := hB3.cast (by simp)
   have hown := own_of_blk (B := w.heap.size) hB4 (cap := n) (n := n) (by rw [List.length_map, HZ.out]) (Nat.le_refl _) (by unfold maxLen; omega) (List.take_of_length_le (by rw [List.length_map, HZ.out]; exact Nat.le_refl _)) (by omega)
   have HB3 := Lib.hid hB3; clear hB3 hB4
   have hsz := hC3.size
   have hsz2 := hC.size
   obtain ⟨i0, hi, hz0, hz1, hz2⟩ := info_parts Tryz.info52
   go_wp2_with (at_builtin; refine wpList_append_own _ rfl _ _ 132 rfl w.heap.size 125 i0 (.int .u64 0) 1 8 Tryz.underlying132 hi hz0 hz1 hz2 rfl (by decide) _ n (zs.map U) rfl (hown.alloc _) ⟨w3.heap.size, 0, none⟩ 1 1 [U c] rfl rfl (Blk.new _ #[U c] _).adds (by simp [one_int]) (by unfold maxLen; omega) (by omega) (by simp; omega) ?_; intro v' w4 hown' hgrow _)
   have hz5 : Dok (zs ++ [c]) := hz.append (Dok.cons hc Dok.nil)
   obtain ⟨p, cap, rfl, hd, _, _, _⟩ := dg_of_own (xs := zs ++ [c]) (by simpa using hown') hz5
   clear hown hown'
   have hgr := Ch.of_grown_own hgrow
   clear hgrow
   have hC5 : Ch w.heap.size none1 w w4 := by
    have h3 := hC.step hC3 (Nat.le_refl _) (fun k hk q => absurd q (by omega))
    exact (h3.alloc (by omega) _).step hgr (Nat.le_refl _) (fun k hk q => absurd q (by omega))
   go_wp2_with fail
   refine (natural_any p _ cap _ _ hd (by omega)).mono ?_
   rintro e w5 ⟨rfl, hC6⟩
   go_wp2_with fail
   go_ret
   refine ⟨ret_S ?_, hC5.step0 hC6 (Nat.le_refl _)⟩
   rw [dv_snoc, HZ.out, HV.out, HXA.out, HXB.out]
end Go.Proofs.YtkeomlpecjjhiaaGreatDoor
namespace Go.Proofs.YtkeomlpecjjhiaaGreatDoor
open Go.RowKit
set_option maxRecDepth 100000 in
set_option maxHeartbeats 1600000 in
theorem Sub_no (a b : List UInt8) (w : World) (ha : a.length ≤ LIM) (hb : b.length ≤ LIM) (h : bv a < bv b) :
  Calls Tryz.prog 104 #[S a, S b] w fun e w' => e = .returned (.tuple #[S [], .bool false]) ∧ w' = w := by
 have ham : a.length ≤ maxLen := by unfold LIM at ha; unfold maxLen; omega
 have hbm : b.length ≤ maxLen := by unfold LIM at hb; unfold maxLen; omega
 have hc := fun w => cmp_any a b w ham hbm
 rw [cmpN_lt h] at hc
 have HC := Lib.hid hc; clear hc
 go_enter Tryz.func104, Tryz.ntmps104
 go_wp2_with fail
 refine (HC.out _).mono ?_
 rintro e w' ⟨rfl, rfl⟩
 go_wp2_with fail
 go_ret2
 exact ⟨rfl, rfl⟩
theorem cmpN_ge {a b : Nat} (h : b ≤ a) : ∃ c : Int, cmpN a b = c ∧ 0 ≤ c := by
 rcases Nat.lt_or_ge b a with q | q
 ·exact ⟨1, cmpN_gt q, by omega⟩
 ·exact ⟨0, cmpN_eq (by omega), by omega⟩
set_option maxRecDepth 100000 in
set_option maxHeartbeats 1600000 in
theorem Sub_yes (a b : List UInt8) (w : World) (ha : a.length ≤ LIM) (hb : b.length ≤ LIM) (h : bv b ≤ bv a) :
  Calls Tryz.prog 104 #[S a, S b] w fun e w' => e = .returned (.tuple #[S (nb (bv a - bv b)), .bool true]) ∧ Ch w.heap.size none1 w w' := by
 have ham : a.length ≤ maxLen := by unfold LIM at ha; unfold maxLen; omega
 have hbm : b.length ≤ maxLen := by unfold LIM at hb; unfold maxLen; omega
 have hc := fun w => cmp_any a b w ham hbm
 obtain ⟨c, hcc, hc0⟩ := cmpN_ge h
 rw [hcc] at hc
 have HC := Lib.hid hc; clear hc hcc
 by_cases hw : bv a < 18446744073709551616 ∧ bv b < 18446744073709551616
 ·obtain ⟨h1, h2⟩ := hw
  have e1 : ((bv a : Nat) : Int) - ((bv b : Nat) : Int) = ((bv a - bv b : Nat) : Int) := by omega
  have HE := Lib.hid e1; clear e1
  go_enter Tryz.func104, Tryz.ntmps104
  go_wp2_with fail
  refine (HC.out _).mono ?_
  rintro e w' ⟨rfl, rfl⟩
  go_wp2_with fail
  refine (words_yes a b _ ham hbm h1 h2).mono ?_
  rintro e w' ⟨rfl, rfl⟩
  go_wp2_with fail
  rw [HE.out]
  refine (wordNat_any (bv a - bv b) _ (by omega)).mono ?_
  rintro e w2 ⟨rfl, hC⟩
  go_wp2_with fail
  go_ret2
  exact ⟨rfl, hC⟩
 ·go_enter Tryz.func104, Tryz.ntmps104
  go_wp2_with fail
  refine (HC.out _).mono ?_
  rintro e w' ⟨rfl, rfl⟩
  go_wp2_with fail
  refine (words_no a b _ ham hbm hw).mono ?_
  rintro e w' ⟨rfl, rfl⟩
  obtain ⟨w, rfl⟩ : ∃ w : World, w = w' := ⟨_, rfl⟩
  clear hw
  go_wp2_with fail
  refine (digitsOf_any a _ (by unfold LIM at ha; omega)).mono ?_
  rintro e w1 ⟨g1, rfl, hB1, hg1, hC1⟩
  go_wp2_with fail
  refine (digitsOf_any b _ (by unfold LIM at hb; omega)).mono ?_
  rintro e w2 ⟨g2, rfl, hB2, hg2, hC2⟩
  have hlt1 := hB1.lt
  have hB1' := hC2.blk hB1 hlt1 (fun q => q)
  have hC := hC1.step0 hC2 (Nat.le_refl _)
  clear hB1 hC1 hC2
  have hXA := dv_ds (bv a)
  have hXB := dv_ds (bv b)
  have hda := dok_ds (bv a)
  have hdb := dok_ds (bv b)
  have hna := ds_lim a ha
  have hnb := ds_lim b hb
  have hmn : (ds (bv b)).length ≤ (ds (bv a)).length := (ds_len _ _).2 (Nat.lt_of_le_of_lt h ((ds_len _ _).1 (Nat.le_refl _)))
  generalize ds (bv a) = xs at *
  generalize ds (bv b) = ys at *
  obtain ⟨n, hn⟩ : ∃ n, xs.length = n := ⟨_, rfl⟩
  obtain ⟨m, hm⟩ : ∃ m, ys.length = m := ⟨_, rfl⟩
  rw [hn] at hna hmn ⊢
  rw [hm] at hnb hmn ⊢
  have HXA := Lib.hid hXA; clear hXA
  have HXB := Lib.hid hXB; clear hXB
  have HN := Lib.hid hn; clear hn
  have HM := Lib.hid hm; clear hm
  go_wp2_with fail
  refine (subtract_any n m n m g1 0 _ _ [] [] xs ys _ hda HN.out (by unfold maxLen; omega) (Nat.le_refl _) hmn (by rw [HXA.out, HXB.out]; exact h) (hB1'.cast (by simp)) rfl (dg_of_blk (hB2.cast (by simp) : Blk _ _ _ (ys.map U ++ [])) hdb m HM.out) (fun q hq => by simp only [Option.some.injEq] at hq; subst hq; show g2 ≠ g1; omega)).mono ?_
  rintro e w3 ⟨zs, rfl, hz, hzl, hzv, hB3, hC3⟩
  have HZ := Lib.hid hzl; clear hzl
  have HV := Lib.hid hzv; clear hzv
  have hB4 : Blk w3 g1 125 (zs.map U ++ []) := hB3.cast (by simp)
  have hd := dg_of_blk hB4 hz n HZ.out
  clear hB3 hB4
  have hC5 := hC.step hC3 (Nat.le_refl _) (fun k hk q => absurd q (by omega))
  go_wp2_with fail
  refine (natural_any _ n n _ _ hd (by omega)).mono ?_
  rintro e w5 ⟨rfl, hC6⟩
  go_wp2_with fail
  go_ret2
  refine ⟨?_, hC5.step0 hC6 (Nat.le_refl _)⟩
  rw [← HXA.out, ← HXB.out, ← HV.out]
  rfl
/-- v is a slice of one's own, from block B on, that holds the digits of N. -/
def OwnD (w : World) (B : Nat) (v : Value) (N : Nat) : Prop := w.ownsRow B 125 1 v (ds N).length ((ds N).map U)
theorem OwnD.dg {w : World} {B N : Nat} {v : Value} (h : OwnD w B v N) : ∃ p cap, v = .slice p (ds N).length cap ∧ Dg w p (ds N).length (ds N) ∧ (ds N).length ≤ cap ∧ cap ≤ maxLen ∧ (∀ a, p = some a → B ≤ a.block ∧ a.off = 0) :=
 dg_of_own h (dok_ds N)
theorem OwnD.ch {B B' N : Nat} {R : Nat → Prop} {v : Value} {w w' : World} (h : OwnD w B v N) (hC : Ch B' R w w') (hB : w.heap.size ≤ B') (hR : ∀ k, B ≤ k → k < w.heap.size → ¬ R k) : OwnD w' B v N := by
 obtain ⟨h1, h2⟩ := h
 refine ⟨h1, ?_⟩
 rcases h2 with q | ⟨g, cap, cur, hv, hb, hg, r⟩
 ·exact .inl q
 ·have hl : g < w.heap.size := (Array.getElem?_eq_some_iff.1 hg).1
  exact .inr ⟨g, cap, cur, hv, hb, by rw [hC.block g (by omega) (hR g hb hl)]; exact hg, r⟩
theorem OwnD.mono {w : World} {B B' N : Nat} {v : Value} (h : OwnD w B v N) (hB : B' ≤ B) : OwnD w B' v N := by
 obtain ⟨h1, h2⟩ := h
 refine ⟨h1, ?_⟩
 rcases h2 with q | ⟨g, cap, cur, hv, hb, r⟩
 ·exact .inl q
 ·exact .inr ⟨g, cap, cur, hv, Nat.le_trans hB hb, r⟩
theorem OwnD.of_blk {w : World} {B g cap : Nat} {zs : List Nat} (h : Blk w g 125 (zs.map U)) (hz : Dok zs) (hl : zs.length = cap) (hm : cap ≤ maxLen) (hb : B ≤ g) : OwnD w B (.slice (some ⟨g, 0, none⟩) (tlen zs) cap) (dv zs) := by
 unfold OwnD
 have ht := trimD zs hz
 have hle := tlen_le zs
 have e : (ds (dv zs)).length = tlen zs := by rw [← ht, List.length_take]; omega
 rw [e]
 exact own_of_blk h (by rw [List.length_map]; exact hl) (by omega) hm (by rw [← List.map_take, ht]) hb
theorem mul_bound (B n m : Nat) (x y : Nat) (hx : x < B ^ n) (hy : y < B ^ m) : x * y < B ^ (n + m) := by
 rw [Nat.pow_add]
 have h1 : x * y ≤ x * B ^ m := Nat.mul_le_mul_left _ (Nat.le_of_lt hy)
 have h2 : x * B ^ m < B ^ n * B ^ m := Nat.mul_lt_mul_of_pos_right hx (by omega)
 omega
theorem mul_step' (P Q R zt zd z2 c X Y y T : Nat) (hR : R = P * Q) (h1 : zt + P * zd = X * Y) (h2 : z2 + Q * c = zd + X * y) (hT : T = X * (Y + P * y)) (hlt : T < R) : zt + P * z2 = T := by
 have e : zt + P * z2 + R * c = T := by
  have : P * (z2 + Q * c) = P * (zd + X * y) := by rw [h2]
  subst hR hT
  grind
 have hc : c = 0 := by
  rcases Nat.eq_zero_or_pos c with h | h
  ·exact h
  ·have := Nat.mul_le_mul_left R h
   omega
 subst hc
 simpa using e
theorem mul_step (zs zs2 xs ys : List Nat) (k n m y c : Nat) (_hz : Dok zs) (hx : Dok xs) (hy : Dok ys) (hzl : zs.length = n + m) (hxl : xs.length = n) (hyl : ys.length = m) (hk : k < m) (h : dv zs = dv xs * dv (ys.take k)) (hyk : dv (ys.take (k + 1)) = dv (ys.take k) + D ^ k * y)
  (h2 : dv zs2 + D ^ (n + m - k) * c = dv (zs.drop k) + dv xs * y) : dv (zs.take k ++ zs2) = dv xs * dv (ys.take (k + 1)) := by
 have h1 := dv_take_drop zs k (by omega)
 have hb := mul_bound D n (k + 1) (dv xs) (dv (ys.take (k + 1))) (by rw [← hxl]; exact dv_lt hx) (by
  have := dv_lt (hy.take (k + 1))
  rwa [List.length_take, Nat.min_eq_left (by omega)] at this)
 have hb2 : D ^ (n + (k + 1)) ≤ D ^ (n + m) := Nat.pow_le_pow_right D_pos (by omega)
 have hR : D ^ (n + m) = D ^ k * D ^ (n + m - k) := by rw [← Nat.pow_add]; congr 1; omega
 rw [dv_append, List.length_take, Nat.min_eq_left (by omega)]
 rw [hyk] at hb ⊢
 exact mul_step' (D ^ k) (D ^ (n + m - k)) (D ^ (n + m)) _ _ _ c (dv xs) (dv (ys.take k)) y _ hR (by rw [← h1, h]) h2 rfl (by omega)
set_option maxRecDepth 100000 in
set_option maxHeartbeats 1600000 in
theorem multiply_any (n m capx capy : Nat) (p q : Option Addr) (xs ys : List Nat) (w : World) (hx : Dg w p n xs) (hy : Dg w q m ys) (hn : n ≤ 8796093022208) (hm : m ≤ 8796093022208) :
  Calls Tryz.prog 144 #[.slice p n capx, .slice q m capy] w fun e w' => ∃ v, e = .returned v ∧ OwnD w' w.heap.size v (dv xs * dv ys) ∧ Ch w.heap.size none1 w w' := by
 obtain ⟨i0, hi, hz0, hz1, hz2⟩ := info_parts Tryz.info52
 have HX := Lib.hid hx; clear hx
 have HY := Lib.hid hy; clear hy
 have HXL := Lib.hid HX.out.len
 have HYL := Lib.hid HY.out.len
 have hnm : ((n : Int) + (m : Int)) = ((n + m : Nat) : Int) := by omega
 have HNM := Lib.hid hnm; clear hnm
 go_enter Tryz.func144, Tryz.ntmps144
 go_wp2_with (refine wpList_make_blk _ rfl _ _ 132 rfl 125 i0 .u64 0 Tryz.underlying132 hi hz0 hz1 .i64 .i64 _ _ (n + m) rfl rfl HNM.out HNM.out (by rw [hz2]; omega) (by unfold maxLen; omega) ?_; intro w1 hB hC)
 obtain ⟨wo, rfl⟩ : ∃ wo : World, wo = w := ⟨_, rfl⟩
 go_loopw [16] (fun i wr => ∃ (k : Nat) (zs : List Nat), k ≤ m ∧ i = .int .i64 k ∧ Dok zs ∧ zs.length = n + m ∧ dv zs = dv xs * dv (ys.take k) ∧ Blk wr wo.heap.size 125 (zs.map U) ∧ Ch wo.heap.size none1 wo wr)
  (fun i _ => m - (intOf i).toNat)
 case atStart => exact ⟨0, List.replicate (n + m) 0, Nat.zero_le _, rfl, Dok.zeros _, by simp, by simp [dv_zeros, dv], hB.cast (by simp), hC⟩
 case round =>
  clear hB hC
  obtain ⟨k, zs, hk, rfl, hz, hzl, hzv, hB', hC'⟩ := hrel
  have HZ := Lib.hid hzl; clear hzl
  have HV := Lib.hid hzv; clear hzv
  by_cases hlt : k < m
  ·obtain ⟨gy, oy, rfl⟩ := HY.out.addr (by omega)
   have hky : k < ys.length := by rw [HYL.out]; exact hlt
   have hyg := (Dg.ch hC' HY.out (fun a ha => ⟨HY.out.lt_size a ha, fun q => q⟩)).get k hlt
   have hty := dv_take_succ ys k hky
   have hyb := HY.out.lt _ (List.getElem_mem hky)
   obtain ⟨y, hy1⟩ : ∃ y, ys[k] = y := ⟨_, rfl⟩
   rw [hy1] at hyg hty hyb
   have HTY := Lib.hid hty; clear hty
   clear hy1
   have hxd := Dg.ch hC' HX.out (fun a ha => ⟨HX.out.lt_size a ha, fun q => q⟩)
   have hxs := HX.out.lt_size
   have hB2 : Blk wr wo.heap.size 125 ((zs.take k).map U ++ (zs.drop k).map U ++ []) := hB'.cast (by rw [List.append_nil, ← List.map_append, List.take_append_drop])
   have HXS := Lib.hid hxs; clear hxs
   go_wp2_with fail
   refine (addProduct_any (n + m - k) n (n + m - k) capx wo.heap.size k y _ p _ [] _ xs _ (hz.drop k) (by rw [List.length_drop, HZ.out]) (by unfold maxLen; omega) (Nat.le_refl _) (by omega) hyb hB2 (by rw [List.length_map, List.length_take, HZ.out]; omega) hxd (fun a ha => Nat.ne_of_lt (HXS.out a ha))).mono ?_
   rintro e w2 ⟨c2, zs2, rfl, hz2, hzl2, hzv2, hB3, hC2⟩
   have HZ2 := Lib.hid hzl2; clear hzl2
   have HV2 := Lib.hid hzv2; clear hzv2
   go_wp2_with fail
   go_roundw
   case rel =>
    refine ⟨k + 1, zs.take k ++ zs2, by omega, by go_num, (hz.take k).append hz2, ?_, mul_step zs zs2 xs ys k n m y c2 hz HX.out.lt HY.out.lt HZ.out HXL.out HYL.out hlt HV.out HTY.out HV2.out, hB3.cast (by simp), hC'.step hC2 (Nat.le_refl _) (fun j hj q => absurd q (by omega))⟩
    rw [List.length_append, List.length_take, HZ.out, HZ2.out]; omega
   case measure => simp [intOf]; omega
  ·obtain rfl : k = m := by omega
   have hyt : ys.take k = ys := List.take_of_length_le (by rw [HYL.out]; exact Nat.le_refl _)
   have hv2 := HV.out
   rw [hyt] at hv2
   have HV2 := Lib.hid hv2; clear hv2 hyt
   go_wp2_with fail
   refine (dtrim_any _ (n + k) (n + k) zs _ (dg_of_blk (hB'.cast (by simp) : Blk _ _ _ (zs.map U ++ [])) hz _ HZ.out) (Nat.le_refl _) (by unfold maxLen; omega)).mono ?_
   rintro e w' ⟨rfl, rfl⟩
   go_wp2_with fail
   go_ret
   refine ⟨_, rfl, ?_, hC'⟩
   rw [← HV2.out]
   exact OwnD.of_blk hB' hz HZ.out (by unfold maxLen; omega) (Nat.le_refl _)
end Go.Proofs.YtkeomlpecjjhiaaGreatDoor
namespace Go.Proofs.YtkeomlpecjjhiaaGreatDoor
/-- The base of halves. -/
theorem h_start (Y un d : Nat) (hY : 9223372036854775808 ≤ Y) (hY2 : Y < 18446744073709551616) (hun : un < Y) (hd : d < 4294967296) :
  (un * 4294967296 + d) / Y ≤ un / (Y / 4294967296) ∧ un / (Y / 4294967296) ≤ 4294967297 ∧ (un * 4294967296 + d) / Y < 4294967296 ∧ 2147483648 ≤ Y / 4294967296 ∧ Y / 4294967296 < 4294967296 := by
 have h1 : 2147483648 ≤ Y / 4294967296 := by omega
 have hm := Nat.div_add_mod Y 4294967296
 have hml := Nat.mod_lt Y (show 4294967296 > 0 by decide)
 generalize Y / 4294967296 = a at *
 generalize Y % 4294967296 = b at *
 refine ⟨?_, ?_, ?_, h1, by omega⟩
 ·rw [Nat.le_div_iff_mul_le (by omega)]
  have q1 := Nat.div_mul_le_self (un * 4294967296 + d) Y
  have q2 : (un * 4294967296 + d) / Y * Y = (un * 4294967296 + d) / Y * a * 4294967296 + (un * 4294967296 + d) / Y * b := by
   rw [← hm, Nat.mul_add, Nat.mul_comm 4294967296 a, Nat.mul_assoc]
  generalize (un * 4294967296 + d) / Y = Q at *
  generalize Q * a = p at *
  generalize Q * b = p2 at *
  omega
 ·rw [← Nat.lt_succ_iff, Nat.div_lt_iff_lt_mul (by omega)]
  have : (4294967297 + 1) * a = 4294967296 * a + 2 * a := by omega
  show un < (4294967297 + 1) * a
  omega
 ·rw [Nat.div_lt_iff_lt_mul (by omega)]
  omega
theorem h_stop (Y un d q r : Nat) (hY : 0 < Y) (hr : q * (Y / 4294967296) + r = un) (hQ : (un * 4294967296 + d) / Y ≤ q) (h : q * (Y % 4294967296) ≤ 4294967296 * r + d) : (un * 4294967296 + d) / Y = q := by
 refine Nat.le_antisymm hQ ?_
 rw [Nat.le_div_iff_mul_le hY]
 have hm := Nat.div_add_mod Y 4294967296
 generalize Y / 4294967296 = a at *
 generalize Y % 4294967296 = b at *
 have q2 : q * Y = q * a * 4294967296 + q * b := by rw [← hm, Nat.mul_add, Nat.mul_comm 4294967296 a, Nat.mul_assoc]
 generalize q * a = p at *
 generalize q * b = p2 at *
 omega
theorem h_go (Y un d q r : Nat) (hY : 0 < Y) (hr : q * (Y / 4294967296) + r = un) (hQB : (un * 4294967296 + d) / Y < 4294967296) (h : 4294967296 ≤ q ∨ 4294967296 * r + d < q * (Y % 4294967296)) : (un * 4294967296 + d) / Y < q := by
 rcases h with h | h
 ·omega
 ·rw [Nat.div_lt_iff_lt_mul hY]
  have hm := Nat.div_add_mod Y 4294967296
  generalize Y / 4294967296 = a at *
  generalize Y % 4294967296 = b at *
  have q2 : q * Y = q * a * 4294967296 + q * b := by rw [← hm, Nat.mul_add, Nat.mul_comm 4294967296 a, Nat.mul_assoc]
  generalize q * a = p at *
  generalize q * b = p2 at *
  omega
theorem h_break (Y un d q r : Nat) (hY : 0 < Y) (hr : q * (Y / 4294967296) + r = un) (hq : q ≤ 4294967296) (hQ : (un * 4294967296 + d) / Y ≤ q) (h : 4294967296 ≤ r) : (un * 4294967296 + d) / Y = q := by
 refine h_stop Y un d q r hY hr hQ ?_
 have hml := Nat.mod_lt Y (show 4294967296 > 0 by decide)
 have h1 := Nat.mul_le_mul hq (show Y % 4294967296 ≤ 4294967295 by omega)
 omega
theorem h_dec (a q r un : Nat) (hr : q * a + r = un) (hq : 1 ≤ q) : (q - 1) * a + (r + a) = un := by
 obtain ⟨p, rfl⟩ : ∃ p, q = p + 1 := ⟨q - 1, by omega⟩
 rw [Nat.add_sub_cancel]
 rw [Nat.add_mul] at hr
 omega
/-- The two halves of the quotient, and the rest. -/
theorem h_all (B E N y s Y un l1 l0 Q1 R1 Q0 R0 : Nat) (hB : B * B = E) (hY : Y = y * 2 ^ s) (hy : 0 < y) (hU : un * E + (B * l1 + l0) = N * 2 ^ s)
  (e1 : Y * Q1 + R1 = un * B + l1) (e0 : Y * Q0 + R0 = R1 * B + l0) (m0 : R0 < Y) : Q1 * B + Q0 = N / y ∧ R0 / 2 ^ s = N % y := by
 have hYp : 0 < Y := by rw [hY]; exact Nat.mul_pos hy (Nat.two_pow_pos s)
 have key : N * 2 ^ s = Y * (Q1 * B + Q0) + R0 := by
  rw [← hU, ← hB]
  have h1 : B * (Y * Q1 + R1) = B * (un * B + l1) := by rw [e1]
  grind
 have d1 : N * 2 ^ s / Y = Q1 * B + Q0 := by
  rw [key, Nat.mul_add_div hYp, Nat.div_eq_of_lt m0, Nat.add_zero]
 have d2 : N * 2 ^ s % Y = R0 := by
  rw [key, Nat.mul_add_mod, Nat.mod_eq_of_lt m0]
 constructor
 ·rw [← d1, hY, Nat.mul_div_mul_right _ _ (Nat.two_pow_pos s)]
 ·rw [← d2, hY, Nat.mul_mod_mul_right, Nat.mul_div_cancel _ (Nat.two_pow_pos s)]
/-- One half of the quotient: what its loop needs. -/
theorem h_pack (Y un d a b : Nat) (hY : 9223372036854775808 ≤ Y) (hY2 : Y < 18446744073709551616) (hun : un < Y) (hd : d < 4294967296) (ha : Y / 4294967296 = a) (hb : Y % 4294967296 = b) :
  ∃ Q R q0 r0, Y * Q + R = un * 4294967296 + d ∧ R < Y ∧ Q < 4294967296 ∧ Q ≤ q0 ∧ q0 ≤ 4294967297 ∧ un / a = q0 ∧ q0 * a + r0 = un ∧ r0 < a ∧
   (∀ q r, q * a + r = un → Q ≤ q → q * b ≤ 4294967296 * r + d → Q = q) ∧
   (∀ q r, q * a + r = un → (4294967296 ≤ q ∨ 4294967296 * r + d < q * b) → Q < q) ∧
   (∀ q r, q * a + r = un → q ≤ 4294967296 → Q ≤ q → 4294967296 ≤ r → Q = q) := by
 subst ha hb
 obtain ⟨h1, h2, h3, h4, h5⟩ := h_start Y un d hY hY2 hun hd
 refine ⟨(un * 4294967296 + d) / Y, (un * 4294967296 + d) % Y, un / (Y / 4294967296), un % (Y / 4294967296), Nat.div_add_mod _ _, Nat.mod_lt _ (by omega), h3, h1, h2, rfl, ?_, Nat.mod_lt _ (by omega), ?_, ?_, ?_⟩
 ·rw [Nat.mul_comm]; exact Nat.div_add_mod _ _
 ·exact fun q r hr hQ h => h_stop Y un d q r (by omega) hr hQ h
 ·exact fun q r hr h => h_go Y un d q r (by omega) hr h3 h
 ·exact fun q r hr hq hQ h => h_break Y un d q r (by omega) hr hq hQ h
/-- A word shifted to the left, in two words. -/
theorem shl_split (lo s : Nat) (hs : s ≤ 64) : lo / 2 ^ (64 - s) * D + lo * 2 ^ s % D = lo * 2 ^ s := by
 have hD : D = 2 ^ (64 - s) * 2 ^ s := by rw [← Nat.pow_add, show 64 - s + s = 64 by omega]; rfl
 have h1 : lo * 2 ^ s / D = lo / 2 ^ (64 - s) := by rw [hD, Nat.mul_div_mul_right _ _ (Nat.two_pow_pos s)]
 have h2 := Nat.div_add_mod (lo * 2 ^ s) D
 rw [h1, Nat.mul_comm] at h2
 exact h2
theorem un_eq (hi lo s : Nat) (hs : s ≤ 64) : (hi * 2 ^ s + lo / 2 ^ (64 - s)) * D + lo * 2 ^ s % D = (hi * D + lo) * 2 ^ s := by
 have h := shl_split lo s hs
 rw [Nat.add_mul, Nat.add_mul, Nat.add_assoc, h, Nat.mul_assoc, Nat.mul_assoc, Nat.mul_comm (2 ^ s) D]
theorem un_lt (hi lo y s un L : Nat) (h : hi < y) (hlo : lo < D) (hU : un * D + L = (hi * D + lo) * 2 ^ s) : un < y * 2 ^ s := by
 have h1 : hi * D + lo < y * D := by
  have := Nat.mul_le_mul_right D (show hi + 1 ≤ y from h)
  rw [Nat.add_mul] at this
  omega
 have h2 := Nat.mul_lt_mul_of_pos_right h1 (Nat.two_pow_pos s)
 have h3 : un * D < y * 2 ^ s * D := by
  rw [Nat.mul_assoc y, Nat.mul_comm (2 ^ s) D, ← Nat.mul_assoc]
  omega
 exact Nat.lt_of_mul_lt_mul_right h3
theorem part_lt (lo s : Nat) (hs : s ≤ 64) (hlo : lo < D) : lo / 2 ^ (64 - s) < 2 ^ s := by
 rw [Nat.div_lt_iff_lt_mul (Nat.two_pow_pos _), ← Nat.pow_add, show s + (64 - s) = 64 by omega]
 exact hlo
theorem norm_bounds (y s k : Nat) (hk : k + s = 64) (h1 : y < 2 ^ k) (h2 : 2 ^ (k - 1) ≤ y) (hk1 : 1 ≤ k) : 9223372036854775808 ≤ y * 2 ^ s ∧ y * 2 ^ s < 18446744073709551616 := by
 constructor
 ·have := Nat.mul_le_mul_right (2 ^ s) h2
  rw [← Nat.pow_add, show k - 1 + s = 63 by omega] at this
  exact this
 ·have := Nat.mul_lt_mul_of_pos_right h1 (Nat.two_pow_pos s)
  rw [← Nat.pow_add, show k + s = 64 by omega] at this
  exact this
end Go.Proofs.YtkeomlpecjjhiaaGreatDoor
namespace Go.Proofs.YtkeomlpecjjhiaaGreatDoor
open Go.RowKit
theorem nat_ne_bool {c : Nat} (h : c ≠ 0) : (((c : Nat) : Int) == 0) = false := by rw [beq_eq_false_iff_ne]; omega
theorem u64_div (x y : Nat) (hx : x < 18446744073709551616) : IntKind.u64.wrap ((x : Int) / (y : Int)) = ((x / y : Nat) : Int) := by
 have := Nat.div_le_self x y
 rw [show ((x : Int) / (y : Int)) = ((x / y : Nat) : Int) from (Int.natCast_ediv x y).symm]
 exact u64_wrap _ (by omega)
set_option maxRecDepth 100000 in
set_option maxHeartbeats 1600000 in
theorem div64_small (lo y : Nat) (w : World) (hlo : lo < 18446744073709551616) (hy : y < 18446744073709551616) (h0 : 0 < y) :
  Calls Tryz.prog 202 #[.int .u64 0, U lo, U y] w fun e w' => e = .returned (.tuple #[U (lo / y), U (lo % y)]) ∧ ∃ k, w' = w.drewN k := by
 have hb := nat_ne_bool (show y ≠ 0 by omega)
 have hd := u64_div lo y hlo
 have hm : ((lo : Int) % (y : Int)) = ((lo % y : Nat) : Int) := (Int.natCast_emod lo y).symm
 go_enter Tryz.func202, Tryz.ntmps202
 go_wp2_with fail
 go_quiet (fail)
 go_wp2_with fail
 go_ret2
 refine ⟨?_, _, rfl⟩
 show Ending.returned (.tuple #[.int .u64 _, .int .u64 ((lo : Int) % (y : Int))]) = _
 rw [hm, show ((lo : Int) / (y : Int)) = ((lo / y : Nat) : Int) from (Int.natCast_ediv lo y).symm]
theorem wrap_u (n : Int) : IntKind.u64.wrap n = n % 18446744073709551616 := by simp [IntKind.wrap, IntKind.bits, IntKind.signed]
theorem u64_mask32 (x : Nat) (h : x < 18446744073709551616) : bits .and .u64 (x : Int) 4294967295 = ((x % 4294967296 : Nat) : Int) := by
 have := u64_and x 4294967295 h (by omega)
 rw [show (((4294967295 : Nat)) : Int) = 4294967295 from rfl] at this
 rw [this, show (4294967295 : Nat) = 2 ^ 32 - 1 from rfl, Nat.and_two_pow_sub_one_eq_mod]
theorem shl_cast (x s : Nat) (h : x * 2 ^ s < 18446744073709551616) : IntKind.u64.wrap ((x : Int) * 2 ^ s) = ((x * 2 ^ s : Nat) : Int) := by
 rw [show (x : Int) * 2 ^ s = ((x * 2 ^ s : Nat) : Int) from by simp]
 exact u64_wrap _ h
theorem shl_mod (x s : Nat) : IntKind.u64.wrap ((x : Int) * 2 ^ s) = ((x * 2 ^ s % D : Nat) : Int) := by
 rw [show (x : Int) * 2 ^ s = ((x * 2 ^ s : Nat) : Int) from by simp, wrap_u]
 exact (Int.natCast_emod _ _).symm
theorem shr_cast (x s : Nat) : (x : Int) / 2 ^ s = ((x / 2 ^ s : Nat) : Int) := by simp
/-- What wraps twice and is a word is that word. -/
theorem wrap_rest (un Q Y l R : Nat) (h : Y * Q + R = un * 4294967296 + l) (hR : R < 18446744073709551616) :
  IntKind.u64.wrap (IntKind.u64.wrap (IntKind.u64.wrap ((un : Int) * 4294967296) + (l : Int)) - IntKind.u64.wrap ((Q : Int) * (Y : Int))) = (R : Int) := by
 have h1 : ((Q : Int) * (Y : Int)) = ((Y * Q : Nat) : Int) := by rw [Nat.mul_comm]; simp
 rw [h1]
 generalize Y * Q = p at *
 simp only [wrap_u]
 omega
theorem lz_facts (y : Nat) (hy : y < 18446744073709551616) (h0 : 0 < y) : lz y < 64 ∧ 9223372036854775808 ≤ y * 2 ^ lz y ∧ y * 2 ^ lz y < 18446744073709551616 := by
 have h64 := bitLen_64 y hy
 have k0 := bitLen_iff y 0 hy (by omega)
 have hpos : 1 ≤ Lib.bitLen y := by
  rcases Nat.eq_zero_or_pos (Lib.bitLen y) with q | q
  ·have := k0.1 (by omega); simp at this; omega
  ·exact q
 have k1 := bitLen_iff y (Lib.bitLen y) hy h64
 have k2 := bitLen_iff y (Lib.bitLen y - 1) hy (by omega)
 unfold lz
 refine ⟨by omega, norm_bounds y _ (Lib.bitLen y) (by omega) (k1.1 (Nat.le_refl _)) (by omega) hpos⟩
set_option maxRecDepth 100000 in
set_option maxHeartbeats 3200000 in
theorem div64_core (hi lo y s Y un L a b l1 l0 Q1 R1 q1 r1 Q0 R0 q0 r0 : Nat) (w : World) (hhi : hi < y) (_hlo : lo < 18446744073709551616) (hy : y < 18446744073709551616) (h0 : 0 < hi)
  (hs : lz y = s) (hs64 : s < 64) (rY : IntKind.u64.wrap ((y : Int) * 2 ^ s) = (Y : Int)) (rL : IntKind.u64.wrap ((lo : Int) * 2 ^ s) = (L : Int))
  (rU : bits .or .u64 (IntKind.u64.wrap ((hi : Int) * 2 ^ s)) ((lo : Int) / 2 ^ (64 - s)) = (un : Int))
  (hY1 : 9223372036854775808 ≤ Y) (hY2 : Y < 18446744073709551616) (_hL : L < 18446744073709551616) (hun : un < Y)
  (ra : (Y : Int) / 4294967296 = (a : Int)) (rb : bits .and .u64 (Y : Int) 4294967295 = (b : Int)) (rl1 : (L : Int) / 4294967296 = (l1 : Int)) (rl0 : bits .and .u64 (L : Int) 4294967295 = (l0 : Int))
  (ha : 2147483648 ≤ a) (ha2 : a < 4294967296) (hb : b < 4294967296) (hl1 : l1 < 4294967296) (hl0 : l0 < 4294967296)
  (rq1 : IntKind.u64.wrap ((un : Int) / (a : Int)) = (q1 : Int)) (hq1 : q1 * a + r1 = un) (hr1 : r1 < a) (hqb1 : q1 ≤ 4294967297) (hQ1 : Q1 ≤ q1) (hQ1b : Q1 < 4294967296)
  (sp1 : ∀ q r, q * a + r = un → Q1 ≤ q → q * b ≤ 4294967296 * r + l1 → Q1 = q) (sg1 : ∀ q r, q * a + r = un → (4294967296 ≤ q ∨ 4294967296 * r + l1 < q * b) → Q1 < q) (sb1 : ∀ q r, q * a + r = un → q ≤ 4294967296 → Q1 ≤ q → 4294967296 ≤ r → Q1 = q)
  (w1 : IntKind.u64.wrap (IntKind.u64.wrap (IntKind.u64.wrap ((un : Int) * 4294967296) + (l1 : Int)) - IntKind.u64.wrap ((Q1 : Int) * (Y : Int))) = (R1 : Int))
  (rq0 : IntKind.u64.wrap ((R1 : Int) / (a : Int)) = (q0 : Int)) (hq0 : q0 * a + r0 = R1) (hr0 : r0 < a) (hqb0 : q0 ≤ 4294967297) (hQ0 : Q0 ≤ q0) (hQ0b : Q0 < 4294967296) (hR1 : R1 < Y)
  (sp0 : ∀ q r, q * a + r = R1 → Q0 ≤ q → q * b ≤ 4294967296 * r + l0 → Q0 = q) (sg0 : ∀ q r, q * a + r = R1 → (4294967296 ≤ q ∨ 4294967296 * r + l0 < q * b) → Q0 < q) (sb0 : ∀ q r, q * a + r = R1 → q ≤ 4294967296 → Q0 ≤ q → 4294967296 ≤ r → Q0 = q)
  (w0 : IntKind.u64.wrap (IntKind.u64.wrap (IntKind.u64.wrap ((R1 : Int) * 4294967296) + (l0 : Int)) - IntKind.u64.wrap ((Q0 : Int) * (Y : Int))) = (R0 : Int)) (RR : Nat) (rsh : (R0 : Int) / 2 ^ s = (RR : Int)) :
  Calls Tryz.prog 202 #[U hi, U lo, U y] w fun e w' => e = .returned (.tuple #[U (Q1 * 4294967296 + Q0), U RR]) ∧ w' = w := by
 have hb0 := nat_ne_bool (show y ≠ 0 by omega)
 have hb2 := nat_ne_bool (show hi ≠ 0 by omega)
 have hl := fun w => lz_any y w hy
 rw [hs] at hl
 have HL := Lib.hid hl; clear hl hs
 have HQ1 := Lib.hid hq1
 have HQ0 := Lib.hid hq0
 have qa1 : (q1 : Int) * (a : Int) ≤ (un : Int) := by rw [← Int.natCast_mul]; omega
 have qa1' : 0 ≤ (q1 : Int) * (a : Int) := by rw [← Int.natCast_mul]; omega
 have qr1 : (un : Int) - (q1 : Int) * (a : Int) = (r1 : Int) := by rw [← Int.natCast_mul]; omega
 have qa0 : (q0 : Int) * (a : Int) ≤ (R1 : Int) := by rw [← Int.natCast_mul]; omega
 have qa0' : 0 ≤ (q0 : Int) * (a : Int) := by rw [← Int.natCast_mul]; omega
 have qr0 : (R1 : Int) - (q0 : Int) * (a : Int) = (r0 : Int) := by rw [← Int.natCast_mul]; omega
 clear hq1 hq0
 have SP1 := Lib.hid sp1; clear sp1
 have SG1 := Lib.hid sg1; clear sg1
 have SB1 := Lib.hid sb1; clear sb1
 have SP0 := Lib.hid sp0; clear sp0
 have SG0 := Lib.hid sg0; clear sg0
 have SB0 := Lib.hid sb0; clear sb0
 go_enter Tryz.func202, Tryz.ntmps202
 go_wp2_with fail
 refine (HL.out _).mono ?_
 rintro e w' ⟨rfl, rfl⟩
 obtain ⟨w, rfl⟩ : ∃ w : World, w = w' := ⟨_, rfl⟩
 go_upto_block 0 with fail
 go_cut [15] (fun v wx => v = U Q1 ∧ wx = w)
 case first =>
  clear w1 w0 ra rb rl1 rl0 rY rL rU rsh rq1 rq0 qr1 qr0 qa1 qa1' qa0 qa0'
  go_wp2_with fail
  go_loop [15, 16] (fun qv rv => ∃ q r : Nat, qv = U q ∧ rv = U r ∧ q * a + r = un ∧ Q1 ≤ q ∧ q ≤ 4294967297 ∧ r < 4294967296) (fun qv _ => (intOf qv).toNat)
  case atStart => exact ⟨q1, r1, rfl, rfl, HQ1.out, hQ1, hqb1, by omega⟩
  case round =>
   obtain ⟨q, r, rfl, rfl, hqr, hQq, hqB, hrB⟩ := hrel
   have HQR := Lib.hid hqr; clear hqr
   by_cases hc : 4294967296 ≤ q ∨ 4294967296 * r + l1 < q * b
   ·have hlt := SG1.out q r HQR.out hc
    have hd := h_dec a q r un HQR.out (by omega)
    have HD := Lib.hid hd; clear hd
    have eq1 : ((q : Int) - 1) = ((q - 1 : Nat) : Int) := by omega
    have er1 : ((r : Int) + (a : Int)) = ((r + a : Nat) : Int) := by omega
    have EQ := Lib.hid eq1; clear eq1
    have ER := Lib.hid er1; clear er1
    have hbk : 4294967296 ≤ r + a → Q1 = q - 1 := fun h => SB1.out (q - 1) (r + a) HD.out (by omega) (by omega) h
    have HBK := Lib.hid hbk; clear hbk
    by_cases hqq : 4294967296 ≤ q
    ·have hqi : 4294967296 ≤ (q : Int) := by omega
     have hqd : decide ((q : Int) < 4294967296) = false := decide_eq_false (by omega)
     have hqe : decide (4294967296 ≤ (q : Int)) = true := decide_eq_true (by omega)
     have hqn : ¬ (q : Int) < 4294967296 := by omega
     clear hc
     by_cases hra : 4294967296 ≤ r + a
     ·have hri : 4294967296 ≤ (r : Int) + (a : Int) := by omega
      have hrd : decide (4294967296 ≤ (r : Int) + (a : Int)) = true := decide_eq_true hri
      go_wp2_with fail
      go_meet
      case rel => exact ⟨by rw [EQ.out, HBK.out hra], rfl⟩
     ·have hri : (r : Int) + (a : Int) < 4294967296 := by omega
      have hrn : ¬ 4294967296 ≤ (r : Int) + (a : Int) := by omega
      have hrd : decide (4294967296 ≤ (r : Int) + (a : Int)) = false := decide_eq_false hrn
      go_wp2_with fail
      go_round
      case rel => exact ⟨q - 1, r + a, by rw [EQ.out], by rw [ER.out], HD.out, by omega, by omega, by omega⟩
      case measure => simp [intOf]; omega
    ·have hqi : (q : Int) < 4294967296 := by omega
     have hqd : decide ((q : Int) < 4294967296) = true := decide_eq_true (by omega)
     have hqe : decide (4294967296 ≤ (q : Int)) = false := decide_eq_false (by omega)
     have hc2 : 4294967296 * r + l1 < q * b := by omega
     have hqb2 : q * b ≤ 4294967296 * 4294967295 := Nat.mul_le_mul (by omega) (by omega)
     have pz : 4294967296 * (r : Int) + (l1 : Int) < (q : Int) * (b : Int) := by rw [← Int.natCast_mul]; omega
     have pb : (q : Int) * (b : Int) ≤ 18446744069414584320 := by rw [← Int.natCast_mul]; omega
     have pd : decide (4294967296 * (r : Int) + (l1 : Int) < (q : Int) * (b : Int)) = true := decide_eq_true pz
     clear hc hc2 hqb2
     by_cases hra : 4294967296 ≤ r + a
     ·have hri : 4294967296 ≤ (r : Int) + (a : Int) := by omega
      have hrd : decide (4294967296 ≤ (r : Int) + (a : Int)) = true := decide_eq_true hri
      go_wp2_with fail
      go_meet
      case rel => exact ⟨by rw [EQ.out, HBK.out hra], rfl⟩
     ·have hri : (r : Int) + (a : Int) < 4294967296 := by omega
      have hrn : ¬ 4294967296 ≤ (r : Int) + (a : Int) := by omega
      have hrd : decide (4294967296 ≤ (r : Int) + (a : Int)) = false := decide_eq_false hrn
      go_wp2_with fail
      go_round
      case rel => exact ⟨q - 1, r + a, by rw [EQ.out], by rw [ER.out], HD.out, by omega, by omega, by omega⟩
      case measure => simp [intOf]; omega
   ·have hqq : q < 4294967296 := by omega
    have hqi : (q : Int) < 4294967296 := by omega
    have hqd : decide ((q : Int) < 4294967296) = true := decide_eq_true (by omega)
    have hqe : decide (4294967296 ≤ (q : Int)) = false := decide_eq_false (by omega)
    have hc2 : q * b ≤ 4294967296 * r + l1 := by omega
    have hqb2 : q * b ≤ 4294967296 * 4294967295 := Nat.mul_le_mul (by omega) (by omega)
    have pz : (q : Int) * (b : Int) ≤ 4294967296 * (r : Int) + (l1 : Int) := by rw [← Int.natCast_mul]; omega
    have pb : 0 ≤ (q : Int) * (b : Int) := by rw [← Int.natCast_mul]; omega
    have pb2 : (q : Int) * (b : Int) ≤ 18446744069414584320 := by rw [← Int.natCast_mul]; omega
    have pd : decide (4294967296 * (r : Int) + (l1 : Int) < (q : Int) * (b : Int)) = false := decide_eq_false (by omega)
    have pn : ¬ (4294967296 * (r : Int) + (l1 : Int) < (q : Int) * (b : Int)) := by omega
    have hst := SP1.out q r HQR.out hQq hc2
    have HST := Lib.hid hst; clear hst hc hc2 hqb2
    go_wp2_with fail
    go_meet
    case rel => exact ⟨by rw [HST.out], rfl⟩
 case rest =>
  obtain ⟨rfl, rfl⟩ := hcut
  obtain ⟨w, rfl⟩ : ∃ w : World, w = wc := ⟨_, rfl⟩
  go_upto_block 2 with fail
  go_cut [18] (fun v wx => v = U Q0 ∧ wx = w)
  case first =>
   clear w1 w0 ra rb rl1 rl0 rY rL rU rsh rq1 rq0 qr1 qr0 qa1 qa1' qa0 qa0'
   go_wp2_with fail
   go_loop [18, 16] (fun qv rv => ∃ q r : Nat, qv = U q ∧ rv = U r ∧ q * a + r = R1 ∧ Q0 ≤ q ∧ q ≤ 4294967297 ∧ r < 4294967296) (fun qv _ => (intOf qv).toNat)
   case atStart => exact ⟨q0, r0, rfl, rfl, HQ0.out, hQ0, hqb0, by omega⟩
   case round =>
    obtain ⟨q, r, rfl, rfl, hqr, hQq, hqB, hrB⟩ := hrel
    have HQR := Lib.hid hqr; clear hqr
    by_cases hc : 4294967296 ≤ q ∨ 4294967296 * r + l0 < q * b
    ·have hlt := SG0.out q r HQR.out hc
     have hd := h_dec a q r R1 HQR.out (by omega)
     have HD := Lib.hid hd; clear hd
     have eq1 : ((q : Int) - 1) = ((q - 1 : Nat) : Int) := by omega
     have er1 : ((r : Int) + (a : Int)) = ((r + a : Nat) : Int) := by omega
     have EQ := Lib.hid eq1; clear eq1
     have ER := Lib.hid er1; clear er1
     have hbk : 4294967296 ≤ r + a → Q0 = q - 1 := fun h => SB0.out (q - 1) (r + a) HD.out (by omega) (by omega) h
     have HBK := Lib.hid hbk; clear hbk
     by_cases hqq : 4294967296 ≤ q
     ·have hqi : 4294967296 ≤ (q : Int) := by omega
      have hqd : decide ((q : Int) < 4294967296) = false := decide_eq_false (by omega)
      have hqe : decide (4294967296 ≤ (q : Int)) = true := decide_eq_true (by omega)
      have hqn : ¬ (q : Int) < 4294967296 := by omega
      clear hc
      by_cases hra : 4294967296 ≤ r + a
      ·have hri : 4294967296 ≤ (r : Int) + (a : Int) := by omega
       have hrd : decide (4294967296 ≤ (r : Int) + (a : Int)) = true := decide_eq_true hri
       go_wp2_with fail
       go_meet
       case rel => exact ⟨by rw [EQ.out, HBK.out hra], rfl⟩
      ·have hri : (r : Int) + (a : Int) < 4294967296 := by omega
       have hrn : ¬ 4294967296 ≤ (r : Int) + (a : Int) := by omega
       have hrd : decide (4294967296 ≤ (r : Int) + (a : Int)) = false := decide_eq_false hrn
       go_wp2_with fail
       go_round
       case rel => exact ⟨q - 1, r + a, by rw [EQ.out], by rw [ER.out], HD.out, by omega, by omega, by omega⟩
       case measure => simp [intOf]; omega
     ·have hqi : (q : Int) < 4294967296 := by omega
      have hqd : decide ((q : Int) < 4294967296) = true := decide_eq_true (by omega)
      have hqe : decide (4294967296 ≤ (q : Int)) = false := decide_eq_false (by omega)
      have hc2 : 4294967296 * r + l0 < q * b := by omega
      have hqb2 : q * b ≤ 4294967296 * 4294967295 := Nat.mul_le_mul (by omega) (by omega)
      have pz : 4294967296 * (r : Int) + (l0 : Int) < (q : Int) * (b : Int) := by rw [← Int.natCast_mul]; omega
      have pb : (q : Int) * (b : Int) ≤ 18446744069414584320 := by rw [← Int.natCast_mul]; omega
      have pd : decide (4294967296 * (r : Int) + (l0 : Int) < (q : Int) * (b : Int)) = true := decide_eq_true pz
      clear hc hc2 hqb2
      by_cases hra : 4294967296 ≤ r + a
      ·have hri : 4294967296 ≤ (r : Int) + (a : Int) := by omega
       have hrd : decide (4294967296 ≤ (r : Int) + (a : Int)) = true := decide_eq_true hri
       go_wp2_with fail
       go_meet
       case rel => exact ⟨by rw [EQ.out, HBK.out hra], rfl⟩
      ·have hri : (r : Int) + (a : Int) < 4294967296 := by omega
       have hrn : ¬ 4294967296 ≤ (r : Int) + (a : Int) := by omega
       have hrd : decide (4294967296 ≤ (r : Int) + (a : Int)) = false := decide_eq_false hrn
       go_wp2_with fail
       go_round
       case rel => exact ⟨q - 1, r + a, by rw [EQ.out], by rw [ER.out], HD.out, by omega, by omega, by omega⟩
       case measure => simp [intOf]; omega
    ·have hqq : q < 4294967296 := by omega
     have hqi : (q : Int) < 4294967296 := by omega
     have hqd : decide ((q : Int) < 4294967296) = true := decide_eq_true (by omega)
     have hqe : decide (4294967296 ≤ (q : Int)) = false := decide_eq_false (by omega)
     have hc2 : q * b ≤ 4294967296 * r + l0 := by omega
     have hqb2 : q * b ≤ 4294967296 * 4294967295 := Nat.mul_le_mul (by omega) (by omega)
     have pz : (q : Int) * (b : Int) ≤ 4294967296 * (r : Int) + (l0 : Int) := by rw [← Int.natCast_mul]; omega
     have pb : 0 ≤ (q : Int) * (b : Int) := by rw [← Int.natCast_mul]; omega
     have pb2 : (q : Int) * (b : Int) ≤ 18446744069414584320 := by rw [← Int.natCast_mul]; omega
     have pd : decide (4294967296 * (r : Int) + (l0 : Int) < (q : Int) * (b : Int)) = false := decide_eq_false (by omega)
     have pn : ¬ (4294967296 * (r : Int) + (l0 : Int) < (q : Int) * (b : Int)) := by omega
     have hst := SP0.out q r HQR.out hQq hc2
     have HST := Lib.hid hst; clear hst hc hc2 hqb2
     go_wp2_with fail
     go_meet
     case rel => exact ⟨by rw [HST.out], rfl⟩
  case rest =>
   obtain ⟨rfl, rfl⟩ := hcut
   go_wp2_with fail
   go_ret2
   exact ⟨rfl, rfl⟩
end Go.Proofs.YtkeomlpecjjhiaaGreatDoor
namespace Go.Proofs.YtkeomlpecjjhiaaGreatDoor
open Go.RowKit
theorem div64_any (hi lo y : Nat) (w : World) (hhi : hi < y) (hlo : lo < D) (hy : y < D) :
  Calls Tryz.prog 202 #[U hi, U lo, U y] w fun e w' => e = .returned (.tuple #[U ((hi * D + lo) / y), U ((hi * D + lo) % y)]) ∧ ∃ k, w' = w.drewN k := by
 unfold D at hlo hy
 rcases Nat.eq_zero_or_pos hi with h0 | h0
 ·subst h0
  have := div64_small lo y w hlo hy hhi
  rw [Nat.zero_mul, Nat.zero_add]
  exact this
 ·obtain ⟨hs64, hY1, hY2⟩ := lz_facts y hy (by omega)
  have hU := un_eq hi lo (lz y) (by omega)
  have hun := un_lt hi lo y (lz y) _ _ hhi hlo hU
  have hp := part_lt lo (lz y) (by omega) hlo
  have hLD : lo * 2 ^ lz y % D < 18446744073709551616 := Nat.mod_lt _ D_pos
  have hhs : hi * 2 ^ lz y < 18446744073709551616 := Nat.lt_of_le_of_lt (Nat.le_add_right _ _) (Nat.lt_trans hun hY2)
  have hpq : lo / 2 ^ (64 - lz y) < 18446744073709551616 := Nat.lt_of_le_of_lt (Nat.div_le_self _ _) hlo
  have rU : bits .or .u64 (IntKind.u64.wrap ((hi : Int) * 2 ^ lz y)) ((lo : Int) / 2 ^ (64 - lz y)) = ((hi * 2 ^ lz y + lo / 2 ^ (64 - lz y) : Nat) : Int) := by
   rw [shl_cast hi (lz y) hhs, shr_cast, u64_or _ _ hhs hpq, or_mul _ _ _ hp]
  have rY := shl_cast y (lz y) hY2
  have rL := shl_mod lo (lz y)
  obtain ⟨Y, hYe⟩ : ∃ Y, y * 2 ^ lz y = Y := ⟨_, rfl⟩
  obtain ⟨un, hune⟩ : ∃ un, hi * 2 ^ lz y + lo / 2 ^ (64 - lz y) = un := ⟨_, rfl⟩
  obtain ⟨L, hLe⟩ : ∃ L, lo * 2 ^ lz y % D = L := ⟨_, rfl⟩
  rw [hYe] at hY1 hY2 rY hun
  rw [hune] at hU hun rU
  rw [hLe] at hU hLD rL
  obtain ⟨a, ha⟩ : ∃ a, Y / 4294967296 = a := ⟨_, rfl⟩
  obtain ⟨b, hb⟩ : ∃ b, Y % 4294967296 = b := ⟨_, rfl⟩
  obtain ⟨l1, hl1⟩ : ∃ l1, L / 4294967296 = l1 := ⟨_, rfl⟩
  obtain ⟨l0, hl0⟩ : ∃ l0, L % 4294967296 = l0 := ⟨_, rfl⟩
  have hLs : L = 4294967296 * l1 + l0 := by omega
  obtain ⟨Q1, R1, q1, r1, e1, m1, b1, le1, le1', d1, s1, t1, sp1, sg1, sb1⟩ := h_pack Y un l1 a b hY1 hY2 hun (by omega) ha hb
  obtain ⟨Q0, R0, q0, r0, e0, m0, b0, le0, le0', d0, s0, t0, sp0, sg0, sb0⟩ := h_pack Y R1 l0 a b hY1 hY2 m1 (by omega) ha hb
  obtain ⟨f1, f2⟩ := h_all 4294967296 D (hi * D + lo) y (lz y) Y un l1 l0 Q1 R1 Q0 R0 (by decide) hYe.symm (by omega) (by rw [← hLs]; exact hU) e1 e0 m0
  rw [← f1, ← f2]
  have rb := u64_mask32 Y hY2
  rw [hb] at rb
  have rl := u64_mask32 L hLD
  rw [hl0] at rl
  have rq1 := u64_div un a (by omega)
  rw [d1] at rq1
  have rq0 := u64_div R1 a (by omega)
  rw [d0] at rq0
  have := div64_core hi lo y (lz y) Y un L a b l1 l0 Q1 R1 q1 r1 Q0 R0 q0 r0 w hhi hlo hy h0 rfl hs64 rY rL rU hY1 hY2 hLD hun (by omega) rb (by omega) rl
   (by omega) (by omega) (by omega) (by omega) (by omega) rq1 s1 t1 le1' le1 b1 sp1 sg1 sb1 (wrap_rest un Q1 Y l1 R1 e1 (by omega)) rq0 s0 t0 le0' le0 b0 m1 sp0 sg0 sb0 (wrap_rest R1 Q0 Y l0 R0 e0 (by omega)) (R0 / 2 ^ lz y) (shr_cast R0 (lz y))
  exact this.mono fun e w' h => ⟨h.1, 0, by rw [h.2]; rfl⟩
theorem div64_is (hi lo y q r : Nat) (w : World) (hhi : hi < y) (hlo : lo < D) (hy : y < D) (hq : (hi * D + lo) / y = q) (hr : (hi * D + lo) % y = r) :
  Calls Tryz.prog 202 #[U hi, U lo, U y] w fun e w' => e = .returned (.tuple #[U q, U r]) ∧ Ch w.heap.size none1 w w' := by
 subst hq hr
 exact (div64_any hi lo y w hhi hlo hy).mono fun e w' h => ⟨h.1, by obtain ⟨_, k, rfl⟩ := h; exact (Ch.refl _ _ _).drewN k⟩
theorem div64_quiet (hi lo y q r : Nat) (w : World) (hhi : hi < y) (hlo : lo < D) (hy : y < D) (hq : (hi * D + lo) / y = q) (hr : (hi * D + lo) % y = r) :
  Calls Tryz.prog 202 #[U hi, U lo, U y] w fun e w' => e = .returned (.tuple #[U q, U r]) ∧ ∃ k, w' = w.drewN k := by
 subst hq hr
 exact div64_any hi lo y w hhi hlo hy
theorem q_lt (hi lo y : Nat) (hhi : hi < y) (hlo : lo < D) : (hi * D + lo) / y < D := by
 rw [Nat.div_lt_iff_lt_mul (by omega)]
 have := Nat.mul_le_mul_right D (show hi + 1 ≤ y from hhi)
 rw [Nat.add_mul, Nat.mul_comm y D] at this
 omega
theorem mid_get' (pre post : List Value) (xs zs : List Nat) (x o k : Nat) (ho : pre.length = o) (hk : k < xs.length) (hx : xs[k] = x) : (pre ++ (xs.take (k + 1) ++ zs).map U ++ post)[o + k]? = some (U x) := by
 rw [List.take_succ_eq_append_getElem hk, hx, List.append_assoc (xs.take k)]
 exact mid_get pre post (xs.take k) zs x o k ho (by rw [List.length_take]; omega)
theorem mid_set' (pre post : List Value) (xs zs : List Nat) (v o k : Nat) (ho : pre.length = o) (hk : k < xs.length) : (pre ++ (xs.take (k + 1) ++ zs).map U ++ post).set (o + k) (U v) = pre ++ (xs.take k ++ (v :: zs)).map U ++ post := by
 rw [List.take_succ_eq_append_getElem hk, List.append_assoc (xs.take k)]
 have := mid_set pre post (xs.take k) zs xs[k] v o k ho (by rw [List.length_take]; omega)
 rw [show [xs[k]] ++ zs = xs[k] :: zs from rfl, this]
 simp
theorem divw_step (B y dx dz r q r' x : Nat) (h : dx = y * dz + r) (hq : r * B + x = y * q + r') : x + B * dx = y * (q + B * dz) + r' := by
 subst h
 grind
set_option maxRecDepth 100000 in
set_option maxHeartbeats 1600000 in
theorem divideByWord_any (n cap y g o : Nat) (t : TypeId) (pre post : List Value) (xs : List Nat) (w : World) (hx : Dok xs) (hn : xs.length = n) (hm : n ≤ 1152921504606846975) (hy0 : 0 < y) (hy : y < D)
  (hB : Blk w g t (pre ++ xs.map U ++ post)) (ho : pre.length = o) :
  Calls Tryz.prog 177 #[.slice (some ⟨g, o, none⟩) n cap, U y] w fun e w' => ∃ zs, e = .returned (U (dv xs % y)) ∧ Dok zs ∧ zs.length = n ∧ dv zs = dv xs / y ∧
   Blk w' g t (pre ++ zs.map U ++ post) ∧ Ch w.heap.size (· = g) w w' := by
 have hlt := hB.lt
 have HN := Lib.hid hn; clear hn
 have HO := Lib.hid ho; clear ho
 go_enter Tryz.func177, Tryz.ntmps177
 go_wp2_with fail
 obtain ⟨wo, rfl⟩ : ∃ wo : World, wo = w := ⟨_, rfl⟩
 go_loopw [4, 5] (fun rv i wr => ∃ (k r : Nat) (zs : List Nat), k ≤ n ∧ r < y ∧ i = .int .i64 ((k : Int) - 1) ∧ rv = U r ∧ Dok zs ∧ zs.length = n - k ∧ dv (xs.drop k) = y * dv zs + r ∧ Blk wr g t (pre ++ (xs.take k ++ zs).map U ++ post) ∧ Ch wo.heap.size (· = g) wo wr)
  (fun _ i _ => (intOf i + 1).toNat)
 case atStart => exact ⟨n, 0, [], Nat.le_refl _, hy0, rfl, rfl, Dok.nil, by simp, by rw [List.drop_of_length_le (by rw [HN.out]; exact Nat.le_refl _)]; rfl, by rw [List.take_of_length_le (by rw [HN.out]; exact Nat.le_refl _), List.append_nil]; exact hB, Ch.refl _ _ _⟩
 case round =>
  clear hB
  obtain ⟨k, r, zs, hk, hr, rfl, rfl, hz, hzl, hzv, hB', hC'⟩ := hrel
  have HZ := Lib.hid hzl; clear hzl
  have HV := Lib.hid hzv; clear hzv
  rcases k with _ | k
  ·have h0 := HV.out
   rw [List.drop_zero] at h0
   have e1 : dv xs % y = r := by rw [h0, Nat.mul_add_mod, Nat.mod_eq_of_lt hr]
   have e2 : dv zs = dv xs / y := by rw [h0, Nat.mul_add_div hy0, Nat.div_eq_of_lt hr, Nat.add_zero]
   have E1 := Lib.hid e1
   have E2 := Lib.hid e2
   clear e1 e2 h0
   go_wp2_with fail
   go_ret
   exact ⟨zs, ret_nat E1.out.symm, hz, by rw [HZ.out]; omega, E2.out, hB'.cast (by simp), hC'⟩
  ·have hkl : k < xs.length := by rw [HN.out]; omega
   have hdr := List.drop_eq_getElem_cons hkl
   obtain ⟨x, hx1⟩ : ∃ x, xs[k] = x := ⟨_, rfl⟩
   have hxb : x < D := by rw [← hx1]; exact hx.get k hkl
   rw [hx1] at hdr
   have HDR := Lib.hid hdr; clear hdr
   have c1 := hB'.cell (o + k)
   rw [mid_get' pre post xs zs x o k HO.out hkl hx1] at c1
   have f1 := hB'.frozen (o + k)
   clear hx1
   have e1 : ((k : Int) + 1 - 1) = (k : Int) := by omega
   have hq := Nat.div_add_mod (r * D + x) y
   have hrl := Nat.mod_lt (r * D + x) hy0
   have hql := q_lt r x y hr hxb
   have hdiv := fun w => div64_is r x y _ _ w hr hxb hy rfl rfl
   generalize (r * D + x) / y = q at *
   generalize (r * D + x) % y = r2 at *
   have HQ := Lib.hid hq; clear hq
   have HDIV := Lib.hid hdiv; clear hdiv
   have HB := Lib.hid hB'
   go_wp2_with fail
   refine (HDIV.out _).mono ?_
   rintro e w2 ⟨rfl, hC2⟩
   have hlt2 := hB'.lt
   have hB2 := hC2.blk hB' hlt2 (fun q => q)
   have c2 := hB2.cell (o + k)
   have f2 := hB2.frozen (o + k)
   rw [HB.out.cell] at c1
   rw [c1] at c2
   clear c1 f1 hB' HB
   go_wp2_with fail
   go_roundw
   case rel =>
    refine ⟨k, r2, q :: zs, by omega, hrl, by go_num, rfl, Dok.cons hql hz, by rw [List.length_cons, HZ.out]; omega, ?_, (hB2.set (o + k) (U q)).cast (mid_set' pre post xs zs q o k HO.out hkl), (hC'.step0 hC2 (Nat.le_refl _)).setCell (.inr rfl) _⟩
    rw [HDR.out, dv_cons, dv_cons]
    exact divw_step D y _ _ r q r2 x HV.out HQ.out.symm
   case measure => simp [intOf]
end Go.Proofs.YtkeomlpecjjhiaaGreatDoor
namespace Go.Proofs.YtkeomlpecjjhiaaGreatDoor
open Go.RowKit
set_option maxRecDepth 100000 in
set_option maxHeartbeats 1600000 in
theorem clone_any (g o n cap : Nat) (xs : List Nat) (w : World) (hd : Dg w (some ⟨g, o, none⟩) n xs) (hn0 : 0 < n) (hn : n ≤ 8796093022209) :
  Calls Tryz.prog 176 #[.slice (some ⟨g, o, none⟩) n cap] w fun e w' => ∃ v, e = .returned v ∧ w'.ownsRow w.heap.size 125 1 v n (xs.map U) ∧ Ch w.heap.size none1 w w' := by
 obtain ⟨i0, hi, hz0, hz1, hz2⟩ := info_parts Tryz.info52
 have HX := Lib.hid hd.len
 have hnil := fun w => Lib.run_eql_slice_nil (P := Tryz.prog) w 132 125 (some ⟨g, o, none⟩) n cap 0 0 Tryz.underlying132
 have hnews : ∀ j u, (xs.map U)[j]? = some u → (w.alloc (.cells #[] 125)).cell? ((⟨g, o, none⟩ : Addr).add j) = some u := fun j u hj => by
  rw [plain_add]
  have hjl : j < n := by
   rcases Nat.lt_or_ge j n with h | h
   ·exact h
   ·rw [List.getElem?_eq_none (by rw [List.length_map, HX.out]; exact h)] at hj; simp at hj
  have hc := (Dg.ch ((Ch.refl w.heap.size none1 w).alloc (Nat.le_refl _) (.cells #[] 125)) hd (fun a ha => ⟨hd.lt_size a ha, fun q => q⟩)).get j hjl
  rw [hc, ← hj, List.getElem?_map, List.getElem?_eq_getElem (by rw [HX.out]; exact hjl)]
  rfl
 have HNEWS := Lib.hid hnews; clear hnews hd
 go_enter Tryz.func176, Tryz.ntmps176
 go_wp2_with (at_builtin; refine wpList_append_own _ rfl _ _ 132 rfl w.heap.size 125 i0 (.int .u64 0) 1 8 Tryz.underlying132 hi hz0 hz1 hz2 rfl (by decide) _ 0 [] rfl (World.ownsRow_lit w #[] 0 (Nat.le_refl _) (by decide) rfl) ⟨g, o, none⟩ n cap (xs.map U) rfl (by rw [List.length_map, HX.out, Nat.mul_one]) HNEWS.out (by simp [one_int]) (by unfold maxLen; omega) (by omega) (by simp) ?_; intro v' w4 hown' hgrow _)
 have hC := ((Ch.refl w.heap.size none1 w).alloc (Nat.le_refl _) (.cells #[] 125)).step (Ch.of_grown_own hgrow) (Nat.le_refl _) (fun k hk q => absurd q (by omega))
 clear hgrow
 go_wp2_with fail
 go_ret
 exact ⟨v', rfl, by simpa using hown', hC⟩
/-- The estimate of a digit. -/
def est (h l v : Nat) : Nat := if v ≤ h then D - 1 else (h * D + l) / v
theorem est_lt (h l v : Nat) (hl : l < D) : est h l v < D := by
 unfold est
 split
 ·have := D_pos; omega
 ·exact q_lt h l v (by omega) hl
set_option maxRecDepth 100000 in
set_option maxHeartbeats 800000 in
theorem estimate_any (h l v : Nat) (w : World) (hl : l < D) (hv : v < D) :
  Calls Tryz.prog 217 #[U h, U l, U v] w fun e w' => e = .returned (U (est h l v)) ∧ ∃ k, w' = w.drewN k := by
 by_cases hc : v ≤ h
 ·have he : est h l v = D - 1 := if_pos hc
  rw [he]
  go_enter Tryz.func217, Tryz.ntmps217
  go_wp2_with fail
  go_ret
  exact ⟨rfl, 0, rfl⟩
 ·have he : est h l v = (h * D + l) / v := if_neg hc
  rw [he]
  have hd := fun w => div64_quiet h l v _ _ w (by omega) hl hv rfl rfl
  generalize (h * D + l) / v = q at *
  generalize (h * D + l) % v = r at *
  have HD := Lib.hid hd; clear hd he
  go_enter Tryz.func217, Tryz.ntmps217
  go_wp2_with fail
  refine (HD.out _).mono ?_
  rintro e w2 ⟨rfl, k, rfl⟩
  go_wp2_with fail
  go_ret
  exact ⟨rfl, k, rfl⟩
/-- An estimate is no less than the digit. -/
theorem est_ge (xs ys : List Nat) (m q : Nat) (hx : Dok xs) (_hy : Dok ys) (hxl : xs.length = m + 1) (hyl : ys.length = m) (hm : 0 < m) (hq : q < D) (h : q * dv ys ≤ dv xs) : q ≤ est (xs[m]'(by omega)) (xs[m - 1]'(by omega)) (ys[m - 1]'(by omega)) := by
 unfold est
 split
 ·omega
 ·rename_i hc
  rw [Nat.le_div_iff_mul_le (by omega)]
  have h1 := dv_take_succ xs m (by omega)
  have h2 := dv_take_succ xs (m - 1) (by omega)
  have h3 := dv_take_succ ys (m - 1) (by omega)
  have h4 := dv_lt (hx.take (m - 1))
  rw [List.length_take, Nat.min_eq_left (by omega)] at h4
  rw [show m - 1 + 1 = m from by omega] at h2 h3
  rw [List.take_of_length_le (by omega)] at h1 h3
  generalize xs[m]'(by omega) = a at *
  generalize xs[m - 1]'(by omega) = b at *
  generalize ys[m - 1]'(by omega) = c at *
  have hP : D ^ m = D ^ (m - 1) * D := by rw [← Nat.pow_succ]; congr 1; omega
  rw [hP] at h1
  rw [h2] at h1
  have hpos : 0 < D ^ (m - 1) := Nat.pow_pos D_pos
  generalize D ^ (m - 1) = P at *
  have h5 : P * (q * c) ≤ q * dv ys := by
   rw [h3, Nat.mul_add, Nat.mul_left_comm]; omega
  have h6 : dv xs < P * (a * D + b + 1) := by
   rw [h1, Nat.mul_add, Nat.mul_add, Nat.mul_one, Nat.mul_comm a D, ← Nat.mul_assoc]; omega
  have h7 : P * (q * c) < P * (a * D + b + 1) := by omega
  have h8 := Nat.lt_of_mul_lt_mul_left h7
  omega
theorem shl_low (x s c : Nat) (hs : s ≤ 64) (hc : c < 2 ^ s) : x * 2 ^ s % D ||| c = x * 2 ^ s % D + c := by
 have hD : D = 2 ^ (64 - s) * 2 ^ s := by rw [← Nat.pow_add, show 64 - s + s = 64 by omega]; rfl
 rw [hD, Nat.mul_mod_mul_right]
 exact or_mul _ _ _ hc
theorem shl_step (B P S x c m c' dz dx : Nat) (h : dz + P * c = dx * S) (hm : m + B * c' = x * S) : (dz + P * (m + c)) + P * B * c' = (dx + P * x) * S := by
 have : P * (m + B * c') = P * (x * S) := by rw [hm]
 grind
theorem pow_le64 (s : Nat) (hs : s ≤ 64) : 2 ^ s ≤ 18446744073709551616 := Nat.pow_le_pow_right (n := 2) (by omega) hs
set_option maxRecDepth 100000 in
set_option maxHeartbeats 800000 in
theorem shiftedLeft_any (p : Option Addr) (n cap s : Nat) (xs : List Nat) (w : World) (hd : Dg w p n xs) (hn : n ≤ 8796093022209) (hs : s < 64) :
  Calls Tryz.prog 203 #[.slice p n cap, U s] w fun e w' => ∃ g zs, e = .returned (.slice (some ⟨g, 0, none⟩) ((n + 1 : Nat)) ((n + 1 : Nat))) ∧ w.heap.size ≤ g ∧ Blk w' g 125 (zs.map U) ∧ Dok zs ∧ zs.length = n + 1 ∧ dv zs = dv xs * 2 ^ s ∧ Ch w.heap.size none1 w w' := by
 obtain ⟨i0, hi, hz0, hz1, hz2⟩ := info_parts Tryz.info52
 have HD := Lib.hid hd; clear hd
 have HX := Lib.hid HD.out.len
 have hnn : ((n : Int) + 1) = ((n + 1 : Nat) : Int) := by omega
 have HNN := Lib.hid hnn; clear hnn
 go_enter Tryz.func203, Tryz.ntmps203
 go_wp2_with (refine wpList_make_blk _ rfl _ _ 132 rfl 125 i0 .u64 0 Tryz.underlying132 hi hz0 hz1 .i64 .i64 _ _ (n + 1) rfl rfl HNN.out HNN.out (by rw [hz2]; omega) (by unfold maxLen; omega) ?_; intro w1 hB hC)
 obtain ⟨wo, rfl⟩ : ∃ wo : World, wo = w := ⟨_, rfl⟩
 go_loopw [6, 15] (fun cv i wr => ∃ (k c : Nat) (zs : List Nat), k ≤ n ∧ c < 2 ^ s ∧ i = .int .i64 k ∧ cv = U c ∧ Dok zs ∧ zs.length = k ∧ dv zs + D ^ k * c = dv (xs.take k) * 2 ^ s ∧ Blk wr wo.heap.size 125 ([] ++ (zs ++ 0 :: List.replicate (n - k) 0).map U ++ []) ∧ Ch wo.heap.size none1 wo wr)
  (fun _ i _ => n - (intOf i).toNat)
 case atStart => exact ⟨0, 0, [], Nat.zero_le _, Nat.two_pow_pos s, rfl, rfl, Dok.nil, rfl, by simp [dv], hB.cast (by simp [List.replicate_succ]), hC⟩
 case round =>
  clear hB hC
  obtain ⟨k, c, zs, hk, hc, rfl, rfl, hz, hzl, hzv, hB', hC'⟩ := hrel
  have HZ := Lib.hid hzl; clear hzl
  have HV := Lib.hid hzv; clear hzv
  have c1 := hB'.cell (0 + k)
  rw [mid_get [] [] zs _ 0 0 k rfl HZ.out, Nat.zero_add] at c1
  have f1 := hB'.frozen k
  have hcb := Nat.lt_of_lt_of_le hc (pow_le64 s (by omega))
  by_cases hlt : k < n
  ·obtain ⟨gx, ox, rfl⟩ := HD.out.addr (by omega)
   have hkx : k < xs.length := by rw [HX.out]; exact hlt
   have hxg := (Dg.ch hC' HD.out (fun a ha => ⟨HD.out.lt_size a ha, fun q => q⟩)).get k hlt
   have hts := dv_take_succ xs k hkx
   have hxb := HD.out.lt _ (List.getElem_mem hkx)
   obtain ⟨x, hx1⟩ : ∃ x, xs[k] = x := ⟨_, rfl⟩
   rw [hx1] at hxg hts hxb
   have HT := Lib.hid hts; clear hts hx1
   have hm := Nat.mod_lt (x * 2 ^ s) D_pos
   have r1 : bits .or .u64 (IntKind.u64.wrap ((x : Int) * 2 ^ s)) (c : Int) = ((x * 2 ^ s % D + c : Nat) : Int) := by
    rw [shl_mod, u64_or _ _ hm hcb, shl_low x s c (by omega) hc]
   have hsum : x * 2 ^ s % D + c < D := by
    rw [← shl_low x s c (by omega) hc]
    exact Nat.or_lt_two_pow (n := 64) hm hcb
   have r2 := shr_cast x (64 - s)
   have hc2 := part_lt x s (by omega) hxb
   have hst := shl_step D (D ^ k) (2 ^ s) x c _ _ (dv zs) (dv (xs.take k)) HV.out (by rw [Nat.add_comm, Nat.mul_comm]; exact shl_split x s (by omega))
   generalize x * 2 ^ s % D + c = d at *
   generalize x / 2 ^ (64 - s) = c' at *
   have HS := Lib.hid hst; clear hst hm
   have HSUM := Lib.hid hsum; clear hsum
   have HC2 := Lib.hid hc2; clear hc2
   go_wp2_with fail
   go_roundw
   case rel =>
    refine ⟨k + 1, c', zs ++ [d], by omega, HC2.out, by go_num, rfl, hz.append (Dok.cons HSUM.out Dok.nil), by rw [List.length_append, HZ.out]; rfl, ?_, ?_, hC'.setCell (.inl (Nat.le_refl _)) _⟩
    ·rw [dv_snoc, HZ.out, HT.out, Nat.pow_succ]; exact HS.out
    ·have := (hB'.set (0 + k) (U d)).cast (mid_set [] [] zs _ 0 d 0 k rfl HZ.out)
     rw [Nat.zero_add] at this
     rw [show n - k = (n - (k + 1)) + 1 from by omega, List.replicate_succ] at this
     exact this
   case measure => simp [intOf]; omega
  ·obtain rfl : k = n := by omega
   have hxt : xs.take k = xs := List.take_of_length_le (by rw [HX.out]; exact Nat.le_refl _)
   have hv := HV.out
   rw [hxt] at hv
   have HV2 := Lib.hid hv; clear hv hxt
   go_wp2_with fail
   go_ret
   refine ⟨wo.heap.size, zs ++ [c], rfl, Nat.le_refl _, ?_, hz.append (Dok.cons hcb Dok.nil), by rw [List.length_append, HZ.out]; rfl, by rw [dv_snoc, HZ.out]; exact HV2.out, hC'.setCell (.inl (Nat.le_refl _)) _⟩
   have := (hB'.set (0 + k) (U c)).cast (mid_set [] [] zs _ 0 c 0 k rfl HZ.out)
   rw [Nat.zero_add] at this
   exact this.cast (by simp)
end Go.Proofs.YtkeomlpecjjhiaaGreatDoor
namespace Go.Proofs.YtkeomlpecjjhiaaGreatDoor
open Go.RowKit
/-- One digit of a shift to the right. -/
theorem shr_digit (x r s dz : Nat) (hs : s ≤ 64) (hx : x < D) (hr : r < 2 ^ s) :
  (x / 2 ^ s ||| r * 2 ^ (64 - s)) = (x + D * r) / 2 ^ s ∧ (x + D * r) / 2 ^ s < D ∧ (x + D * (2 ^ s * dz + r)) / 2 ^ s = (x + D * r) / 2 ^ s + D * dz ∧ (x + D * (2 ^ s * dz + r)) % 2 ^ s = x % 2 ^ s ∧ x * 2 ^ (64 - s) % D = x % 2 ^ s * 2 ^ (64 - s) := by
 have hD : D = 2 ^ s * 2 ^ (64 - s) := by rw [← Nat.pow_add, show s + (64 - s) = 64 by omega]; rfl
 have hS := Nat.two_pow_pos s
 have h1 : x / 2 ^ s < 2 ^ (64 - s) := by
  rw [Nat.div_lt_iff_lt_mul hS, Nat.mul_comm, ← hD]; exact hx
 have h2 : (x + D * r) / 2 ^ s = x / 2 ^ s + r * 2 ^ (64 - s) := by
  rw [hD, Nat.mul_assoc, Nat.add_mul_div_left _ _ hS, Nat.mul_comm (2 ^ (64 - s)) r]
 refine ⟨?_, ?_, ?_, ?_, ?_⟩
 ·rw [h2, Nat.or_comm, or_mul _ _ _ h1, Nat.add_comm]
 ·rw [Nat.div_lt_iff_lt_mul hS]
  have := Nat.mul_le_mul_left D (show r + 1 ≤ 2 ^ s from hr)
  rw [Nat.mul_add] at this
  omega
 ·rw [Nat.mul_add, ← Nat.add_assoc, show x + D * (2 ^ s * dz) + D * r = x + D * r + 2 ^ s * (D * dz) from by rw [Nat.mul_left_comm]; omega, Nat.add_mul_div_left _ _ hS]
 ·rw [hD, Nat.mul_assoc, Nat.add_mul_mod_self_left]
 ·rw [hD, Nat.mul_mod_mul_right]
set_option maxRecDepth 100000 in
set_option maxHeartbeats 1600000 in
theorem shiftRight_any (n cap s g o : Nat) (t : TypeId) (pre post : List Value) (xs : List Nat) (w : World) (hx : Dok xs) (hn : xs.length = n) (hm : n ≤ 1152921504606846975) (hs : s < 64)
  (hB : Blk w g t (pre ++ xs.map U ++ post)) (ho : pre.length = o) :
  Calls Tryz.prog 205 #[.slice (some ⟨g, o, none⟩) n cap, U s] w fun e w' => ∃ zs, e = .returned (.tuple #[]) ∧ Dok zs ∧ zs.length = n ∧ dv zs = dv xs / 2 ^ s ∧
   Blk w' g t (pre ++ zs.map U ++ post) ∧ Ch w.heap.size (· = g) w w' := by
 have HN := Lib.hid hn; clear hn
 have HO := Lib.hid ho; clear ho
 go_enter Tryz.func205, Tryz.ntmps205
 go_wp2_with fail
 obtain ⟨wo, rfl⟩ : ∃ wo : World, wo = w := ⟨_, rfl⟩
 go_loopw [4, 5] (fun cv i wr => ∃ (k r : Nat) (zs : List Nat), k ≤ n ∧ r < 2 ^ s ∧ i = .int .i64 ((k : Int) - 1) ∧ cv = U (r * 2 ^ (64 - s)) ∧ Dok zs ∧ zs.length = n - k ∧ dv (xs.drop k) = 2 ^ s * dv zs + r ∧ Blk wr g t (pre ++ (xs.take k ++ zs).map U ++ post) ∧ Ch wo.heap.size (· = g) wo wr)
  (fun _ i _ => (intOf i + 1).toNat)
 case atStart => exact ⟨n, 0, [], Nat.le_refl _, Nat.two_pow_pos s, rfl, by simp, Dok.nil, by simp, by rw [List.drop_of_length_le (by rw [HN.out]; exact Nat.le_refl _)]; rfl, by rw [List.take_of_length_le (by rw [HN.out]; exact Nat.le_refl _), List.append_nil]; exact hB, Ch.refl _ _ _⟩
 case round =>
  clear hB
  obtain ⟨k, r, zs, hk, hr, rfl, rfl, hz, hzl, hzv, hB', hC'⟩ := hrel
  have HZ := Lib.hid hzl; clear hzl
  have HV := Lib.hid hzv; clear hzv
  rcases k with _ | k
  ·have h0 := HV.out
   rw [List.drop_zero] at h0
   have e2 : dv zs = dv xs / 2 ^ s := by rw [h0, Nat.mul_add_div (Nat.two_pow_pos s), Nat.div_eq_of_lt hr, Nat.add_zero]
   have E2 := Lib.hid e2
   clear e2 h0
   go_wp2_with fail
   go_end0
   exact ⟨zs, rfl, hz, by rw [HZ.out]; omega, E2.out, hB'.cast (by simp), hC'⟩
  ·have hkl : k < xs.length := by rw [HN.out]; omega
   have hdr := List.drop_eq_getElem_cons hkl
   obtain ⟨x, hx1⟩ : ∃ x, xs[k] = x := ⟨_, rfl⟩
   have hxb : x < D := by rw [← hx1]; exact hx.get k hkl
   rw [hx1] at hdr
   have HDR := Lib.hid hdr; clear hdr
   have c1 := hB'.cell (o + k)
   rw [mid_get' pre post xs zs x o k HO.out hkl hx1] at c1
   have f1 := hB'.frozen (o + k)
   clear hx1
   have e1 : ((k : Int) + 1 - 1) = (k : Int) := by omega
   obtain ⟨g1, g2, g3, g4, g5⟩ := shr_digit x r s (dv zs) (by omega) hxb hr
   have hcb : r * 2 ^ (64 - s) < 18446744073709551616 := by
    have := Nat.mul_lt_mul_of_pos_right hr (Nat.two_pow_pos (64 - s))
    rw [← Nat.pow_add, show s + (64 - s) = 64 by omega] at this
    exact this
   have hxs : x / 2 ^ s < 18446744073709551616 := Nat.lt_of_le_of_lt (Nat.div_le_self _ _) hxb
   have r1 : bits .or .u64 ((x : Int) / 2 ^ s) ((r * 2 ^ (64 - s) : Nat) : Int) = (((x + D * r) / 2 ^ s : Nat) : Int) := by
    rw [shr_cast, u64_or _ _ hxs hcb, g1]
   have r2 := shl_mod x (64 - s)
   rw [g5] at r2
   have hrn := Nat.mod_lt x (Nat.two_pow_pos s)
   generalize r * 2 ^ (64 - s) = cin at *
   generalize hnew : (x + D * r) / 2 ^ s = d at *
   have G3 := Lib.hid g3
   have G4 := Lib.hid g4
   have G2 := Lib.hid g2
   have HRN := Lib.hid hrn
   clear g1 g2 g3 g4 g5 hnew hrn hxs hr
   generalize hco : x % 2 ^ s * 2 ^ (64 - s) = cout at *
   have HCO := Lib.hid hco; clear hco
   go_wp2_with fail
   go_roundw
   case rel =>
    refine ⟨k, x % 2 ^ s, d :: zs, by omega, HRN.out, by go_num, by rw [HCO.out], Dok.cons G2.out hz, by rw [List.length_cons, HZ.out]; omega, ?_, (hB'.set (o + k) (U d)).cast (mid_set' pre post xs zs d o k HO.out hkl), hC'.setCell (.inr rfl) _⟩
    rw [HDR.out, dv_cons, dv_cons, HV.out, ← G3.out, ← G4.out]
    exact (Nat.div_add_mod _ _).symm
   case measure => simp [intOf]
theorem step_bound (V N _m q : Nat) (hV : 0 < V) (h : N < D * V) (hq : q = N / V) : q < D := by
 subst hq
 rw [Nat.div_lt_iff_lt_mul hV]; exact h
theorem step_zero (V N e z : Nat) (hV : 0 < V) (hge : N / V ≤ e) (hz : z + V * e = N) : e = N / V ∧ z = N % V := by
 have h1 : e ≤ N / V := by rw [Nat.le_div_iff_mul_le hV, Nat.mul_comm]; omega
 have h2 : e = N / V := by omega
 refine ⟨h2, ?_⟩
 have := Nat.div_add_mod N V
 rw [← h2] at this
 omega
theorem step_gt (V N d z B : Nat) (hV : 0 < V) (hz : z + V * d = N + B) (hzb : z < B) : N / V < d := by
 rw [Nat.div_lt_iff_lt_mul hV, Nat.mul_comm]; omega
theorem step_back (V N d z z2 c B : Nat) (hV : 0 < V) (hd : N / V < d) (hz : z + V * d = N + B) (hzb : z < B) (_hz2 : z2 < B) (hVB : V ≤ B) (h : z2 + B * c = z + V) :
  (c = 0 ∧ z2 + V * (d - 1) = N + B) ∨ (c ≠ 0 ∧ d - 1 = N / V ∧ z2 = N % V) := by
 have hd0 : 0 < d := Nat.lt_of_le_of_lt (Nat.zero_le _) hd
 obtain ⟨e, rfl⟩ : ∃ e, d = e + 1 := ⟨d - 1, by omega⟩
 rw [Nat.mul_add, Nat.mul_one] at hz
 rw [Nat.add_sub_cancel]
 rcases Nat.eq_zero_or_pos c with h0 | h0
 ·subst h0
  left
  rw [Nat.mul_zero] at h
  exact ⟨rfl, by omega⟩
 ·right
  have hc : c = 1 := by
   rcases Nat.lt_or_ge c 2 with q | q
   ·omega
   ·have := Nat.mul_le_mul_left B q
    omega
  subst hc
  have := step_zero V N e z2 hV (by omega) (by omega)
  exact ⟨by omega, this.1, this.2⟩
set_option maxRecDepth 100000 in
set_option maxHeartbeats 1600000 in
theorem divideStep_any (m cap capy g o gy oy : Nat) (t : TypeId) (pre post : List Value) (xs ys : List Nat) (w : World) (hx : Dok xs) (hn : xs.length = m + 1) (hm : cap ≤ 1152921504606846975) (hnc : m + 1 ≤ cap) (hm0 : 0 < m)
  (hB : Blk w g t (pre ++ xs.map U ++ post)) (ho : pre.length = o) (hd : Dg w (some ⟨gy, oy, none⟩) m ys) (hne : gy ≠ g) (hV : 0 < dv ys) (hlt : dv xs < D * dv ys) :
  Calls Tryz.prog 204 #[.slice (some ⟨g, o, none⟩) ((m + 1 : Nat)) cap, .slice (some ⟨gy, oy, none⟩) m capy] w fun e w' => ∃ zs, e = .returned (U (dv xs / dv ys)) ∧ Dok zs ∧ zs.length = m + 1 ∧ dv zs = dv xs % dv ys ∧
   Blk w' g t (pre ++ zs.map U ++ post) ∧ Ch w.heap.size (· = g) w w' := by
 have hyl := hd.len
 have hnl : ∀ a : Addr, (some ⟨gy, oy, none⟩ : Option Addr) = some a → a.block ≠ g := fun a ha => by
  simp only [Option.some.injEq] at ha; subst ha; exact hne
 have hsz := hd.lt_size
 have hqD := step_bound (dv ys) (dv xs) m _ hV hlt rfl
 have hge := est_ge xs ys m (dv xs / dv ys) hx hd.lt hn hyl hm0 hqD (Nat.div_mul_le_self _ _)
 have c1 : w.cell? ⟨g, o + m, none⟩ = some (U (xs[m]'(by omega))) := by
  have := hB.cell (o + m)
  rwa [show xs = xs.take (m + 1) ++ [] from by rw [List.append_nil, List.take_of_length_le (by omega)], mid_get' pre post xs [] _ o m ho (by omega) rfl] at this
 have c2 : w.cell? ⟨g, o + (m - 1), none⟩ = some (U (xs[m - 1]'(by omega))) := by
  have := hB.cell (o + (m - 1))
  rwa [show xs = xs.take (m - 1 + 1) ++ xs.drop (m - 1 + 1) from (List.take_append_drop _ _).symm, mid_get' pre post xs _ _ o (m - 1) ho (by omega) rfl] at this
 have c3 := hd.get (m - 1) (by omega)
 have hx1 : xs[m]'(by omega) < D := hx.get m (by omega)
 have hx2 : xs[m - 1]'(by omega) < D := hx.get (m - 1) (by omega)
 have hy1 : ys[m - 1]'(by omega) < D := hd.lt _ (List.getElem_mem _)
 have hes := fun w => estimate_any (xs[m]'(by omega)) (xs[m - 1]'(by omega)) (ys[m - 1]'(by omega)) w hx2 hy1
 have hel := est_lt (xs[m]'(by omega)) (xs[m - 1]'(by omega)) (ys[m - 1]'(by omega)) hx2
 generalize xs[m]'(by omega) = xa at *
 generalize xs[m - 1]'(by omega) = xb at *
 generalize ys[m - 1]'(by omega) = ya at *
 generalize est xa xb ya = e0 at *
 have hi2 : 0 ≤ (m : Int) - 1 := by omega
 have HES := Lib.hid hes; clear hes
 have hen := num_D hel
 have HEL := Lib.hid hel; clear hel hlt hqD
 have HN := Lib.hid hn; clear hn
 have HO := Lib.hid ho; clear ho
 have HD := Lib.hid hd; clear hd
 have HYL := Lib.hid hyl; clear hyl
 have HSZ := Lib.hid hsz; clear hsz
 have HNL := Lib.hid hnl; clear hnl
 go_enter Tryz.func204, Tryz.ntmps204
 go_wp2_with fail
 go_step3
 go_wp2_with fail
 go_quiet ((go_at_call 217; exact Calls.quiet_of (HES.out _)))
 have hB0 := hB.drewN nq
 have hD0 := Dg.ch ((Ch.refl w.heap.size none1 w).drewN nq) HD.out (fun a ha => ⟨HSZ.out a ha, fun q => q⟩)
 have hC0 := (Ch.refl w.heap.size (· = g) w).drewN nq
 have HD0 := Lib.hid hD0; clear hD0 c1 c2 c3
 go_wp2_with fail
 refine (subtractProduct_any m cap capy g o e0 t _ pre post xs ys _ hx HN.out (by unfold maxLen; omega) hnc HEL.out hB0 HO.out HD0.out HNL.out).mono ?_
 rintro e w2 ⟨b, zs, rfl, hb, hz, hzl, hzv, hB2, hC2⟩
 have HZ := Lib.hid hzl; clear hzl
 have hC := hC0.step hC2 (Nat.le_refl _) (fun _ _ q => q)
 have hzlt := dv_lt hz
 rw [HZ.out] at hzlt
 have hylt := dv_lt HD.out.lt
 rw [HYL.out] at hylt
 have hBm : D ^ m ≤ D ^ (m + 1) := Nat.pow_le_pow_right D_pos (by omega)
 by_cases hb0 : b = 0
 ·subst hb0
  rw [Nat.mul_zero, Nat.add_zero] at hzv
  have hfin := step_zero (dv ys) (dv xs) e0 (dv zs) hV hge hzv
  have HF := Lib.hid hfin; clear hfin hzv hge
  go_wp2_with fail
  rw [Exit.noGoto_ret]
  go_ret
  exact ⟨zs, ret_nat HF.out.1, hz, HZ.out, HF.out.2, hB2, hC⟩
 ·obtain rfl : b = 1 := by omega
  rw [Nat.mul_one] at hzv
  obtain ⟨BB, hBB⟩ : ∃ BB, D ^ (m + 1) = BB := ⟨_, rfl⟩
  rw [hBB] at hzlt hBm hzv
  have HV := Lib.hid hzv; clear hzv
  have HBB := Lib.hid hBB; clear hBB
  have HZLT := Lib.hid hzlt; clear hzlt
  obtain ⟨w1, rfl⟩ : ∃ w1 : World, w1 = w2 := ⟨_, rfl⟩
  have hC1 := hC
  clear hge
  go_wp2_with fail
  go_step3
  go_wp2_with fail
  go_loopw [6] (fun dg wr => ∃ (d : Nat) (zs : List Nat), dg = U d ∧ d ≤ e0 ∧ Dok zs ∧ zs.length = m + 1 ∧ dv zs + dv ys * d = dv xs + BB ∧ Blk wr g t (pre ++ zs.map U ++ post) ∧ Ch w.heap.size (· = g) w wr)
   (fun dg _ => (intOf dg).toNat)
  case atStart => exact ⟨e0, zs, rfl, Nat.le_refl _, hz, HZ.out, HV.out, hB2, hC1⟩
  case round =>
   clear hB2 hC1 hC hz HZ HV HZLT
   obtain ⟨d, zs, rfl, hdD, hz, hzl, hzv, hB', hC'⟩ := hrel
   have hzlt := dv_lt hz
   rw [hzl, HBB.out] at hzlt
   have hgt := step_gt (dv ys) (dv xs) d (dv zs) BB hV hzv hzlt
   have hd1 : 1 ≤ d := Nat.lt_of_le_of_lt (Nat.zero_le _) hgt
   have e1 : ((d : Int) - 1) = ((d - 1 : Nat) : Int) := by omega
   have E1 := Lib.hid e1; clear e1
   have HZ := Lib.hid hzl; clear hzl
   have HV := Lib.hid hzv; clear hzv
   have HGT := Lib.hid hgt; clear hgt
   have HZLT := Lib.hid hzlt; clear hzlt
   have hDy := Dg.ch hC' HD.out (fun a ha => ⟨HSZ.out a ha, HNL.out a ha⟩)
   have HDY := Lib.hid hDy; clear hDy
   go_wp2_with fail
   refine (add_any (m + 1) m cap capy g o t _ pre post zs ys _ hz HZ.out (by unfold maxLen; omega) hnc (by omega) hB' HO.out HDY.out HNL.out).mono ?_
   rintro e w2 ⟨c, zs2, rfl, hcD, hz2, hzl2, hzv2, hB2, hC2⟩
   have hzlt2 := dv_lt hz2
   rw [hzl2, HBB.out] at hzlt2
   rw [HBB.out] at hzv2
   have hsb := step_back (dv ys) (dv xs) d (dv zs) (dv zs2) c BB hV HGT.out HV.out HZLT.out hzlt2 (by omega) hzv2
   have HSB := Lib.hid hsb; clear hsb hzlt2 hzv2
   have HZ2 := Lib.hid hzl2; clear hzl2
   have hC3 := hC'.step hC2 (Nat.le_refl _) (fun _ _ q => q)
   by_cases hc0 : c = 0
   ·subst hc0
    go_wp2_with fail
    go_roundw
    case rel =>
     refine ⟨d - 1, zs2, by rw [E1.out], by omega, hz2, HZ2.out, ?_, hB2, hC3⟩
     rcases HSB.out with q | q
     ·exact q.2
     ·exact absurd rfl q.1
    case measure => simp [intOf]; omega
   ·have hbb := ne_bool hc0
    have hf : d - 1 = dv xs / dv ys ∧ dv zs2 = dv xs % dv ys := by
     rcases HSB.out with q | q
     ·exact absurd q.1 hc0
     ·exact q.2
    have HF := Lib.hid hf; clear hf
    go_wp2_with fail
    rw [Exit.noGoto_ret]
    go_ret
    refine ⟨zs2, ?_, hz2, HZ2.out, HF.out.2, hB2, hC3⟩
    rw [← HF.out.1]
    exact ret_int E1.out
end Go.Proofs.YtkeomlpecjjhiaaGreatDoor
namespace Go.Proofs.YtkeomlpecjjhiaaGreatDoor
open Go.RowKit
theorem OwnD.of_blk' {w : World} {B g cap : Nat} {zs : List Nat} {post : List Value} (h : Blk w g 125 (zs.map U ++ post)) (hz : Dok zs) (hl : zs.length + post.length = cap) (hm : cap ≤ maxLen) (hb : B ≤ g) : OwnD w B (.slice (some ⟨g, 0, none⟩) (tlen zs) cap) (dv zs) := by
 unfold OwnD
 have ht := trimD zs hz
 have hle := tlen_le zs
 have e : (ds (dv zs)).length = tlen zs := by rw [← ht, List.length_take]; omega
 rw [e]
 refine own_of_blk h (by rw [List.length_append, List.length_map]; exact hl) (by omega) hm ?_ hb
 rw [List.take_append_of_le_length (by rw [List.length_map]; exact hle), ← List.map_take, ht]
/-- The slice of digits from place k on, m + 1 of them. -/
theorem three (rs : List Nat) (k m : Nat) : rs = rs.take k ++ ((rs.drop k).take (m + 1) ++ rs.drop (k + (m + 1))) := by
 rw [← List.drop_drop, List.take_append_drop, List.take_append_drop]
theorem high_zero (_B : Nat) (A P Q h V : Nat) (_hB : 0 < P) (h1 : A + P * Q * h < V * P) (hV : V ≤ Q) : h = 0 := by
 rcases Nat.eq_zero_or_pos h with q | q
 ·exact q
 ·have h2 := Nat.mul_le_mul_left (P * Q) q
  have h3 := Nat.mul_le_mul_right P hV
  rw [Nat.mul_comm Q P] at h3
  omega
theorem div_step' (B P V low mid q r X Q : Nat) (hX : X = V * (P * B) * Q + (low + P * mid)) (hm : V * q + r = mid) : X = V * P * (q + B * Q) + (low + P * r) := by
 subst hX hm
 grind
theorem div_small (P V low r : Nat) (hl : low < P) (hr : r < V) : low + P * r < V * P := by
 have := Nat.mul_le_mul_left P (show r + 1 ≤ V from hr)
 rw [Nat.mul_add, Nat.mul_comm P V] at this
 omega
theorem mid_small (B P V low mid : Nat) (h : low + P * mid < V * (P * B)) (_hP : 0 < P) : mid < B * V := by
 refine Nat.lt_of_mul_lt_mul_left (a := P) ?_
 rw [← Nat.mul_assoc, Nat.mul_comm (P * B) V]
 omega
/-- What is needed of one step of the long division. -/
theorem long_step (rs qs : List Nat) (k m N V X : Nat) (hr : Dok rs) (hrl : rs.length = N + 1) (hk : k + m ≤ N) (hX : X = V * D ^ (k + 1) * dv qs + dv rs) (hlt : dv rs < V * D ^ (k + 1)) (hV : V < D ^ m) :
  dv ((rs.drop k).take (m + 1)) < D * V ∧ dv (rs.drop (k + (m + 1))) = 0 ∧
  (∀ zs : List Nat, Dok zs → zs.length = m + 1 → dv zs = dv ((rs.drop k).take (m + 1)) % V → 0 < V →
   X = V * D ^ k * dv (dv ((rs.drop k).take (m + 1)) / V :: qs) + dv (rs.take k ++ (zs ++ rs.drop (k + (m + 1)))) ∧ dv (rs.take k ++ (zs ++ rs.drop (k + (m + 1)))) < V * D ^ k) := by
 have e := three rs k m
 have h1 := dv_append (rs.take k) ((rs.drop k).take (m + 1) ++ rs.drop (k + (m + 1)))
 rw [← e, List.length_take, Nat.min_eq_left (by omega)] at h1
 have h2 := dv_append ((rs.drop k).take (m + 1)) (rs.drop (k + (m + 1)))
 have hml : ((rs.drop k).take (m + 1)).length = m + 1 := by rw [List.length_take, List.length_drop]; omega
 rw [hml] at h2
 have hlow := dv_lt (hr.take k)
 rw [List.length_take, Nat.min_eq_left (by omega)] at hlow
 have hPk : 0 < D ^ k := Nat.pow_pos D_pos
 have hsuc : D ^ (k + 1) = D ^ k * D := Nat.pow_succ D k
 have hsm : D ^ (m + 1) = D * D ^ m := by rw [Nat.pow_succ, Nat.mul_comm]
 have hz : dv (rs.drop (k + (m + 1))) = 0 := by
  rw [h1, h2, hsuc, hsm] at hlt
  generalize dv ((rs.drop k).take (m + 1)) = md at *
  generalize dv (rs.drop (k + (m + 1))) = hh at *
  generalize dv (rs.take k) = lo at *
  refine high_zero D (lo + D ^ k * md) (D ^ k * D) (D ^ m) hh V (Nat.mul_pos hPk D_pos) ?_ (Nat.le_of_lt hV)
  have : D ^ k * (md + D * D ^ m * hh) = D ^ k * md + D ^ k * D * D ^ m * hh := by rw [Nat.mul_add, ← Nat.mul_assoc, ← Nat.mul_assoc]
  omega
 rw [hz, Nat.mul_zero, Nat.add_zero] at h2
 rw [h2] at h1
 rw [h1, hsuc] at hX hlt
 have hmid := mid_small D (D ^ k) V _ _ hlt hPk
 refine ⟨hmid, hz, fun zs hzd hzl hzv hV0 => ?_⟩
 have h3 : dv (rs.take k ++ (zs ++ rs.drop (k + (m + 1)))) = dv (rs.take k) + D ^ k * dv zs := by
  rw [dv_append, dv_append, hz, Nat.mul_zero, Nat.add_zero, List.length_take, Nat.min_eq_left (by omega)]
 rw [h3, dv_cons]
 constructor
 ·exact div_step' D (D ^ k) V _ _ _ _ X _ hX (by rw [hzv]; exact Nat.div_add_mod _ _)
 ·exact div_small (D ^ k) V _ _ hlow (by rw [hzv]; exact Nat.mod_lt _ hV0)
theorem top_pos (ys : List Nat) (m : Nat) (hl : ys.length = m) (hm : 0 < m) (ht : tlen ys = m) : 0 < ys[m - 1]'(by omega) := by
 rcases Nat.eq_zero_or_pos (ys[m - 1]'(by omega)) with h | h
 ·have := tlen_step ys (m - 1) (by omega) h (by omega)
  omega
 ·exact h
theorem norm_top (ys : List Nat) (m s : Nat) (hy : Dok ys) (hl : ys.length = m) (hm : 0 < m) (hs : (ys[m - 1]'(by omega)) * 2 ^ s < D) (hs64 : s < 64) : dv ys * 2 ^ s < D ^ m := by
 have h3 := dv_take_succ ys (m - 1) (by omega)
 rw [show m - 1 + 1 = m from by omega, List.take_of_length_le (by omega)] at h3
 have h4 := dv_lt (hy.take (m - 1))
 rw [List.length_take, Nat.min_eq_left (by omega)] at h4
 have hP : D ^ m = D ^ (m - 1) * D := by rw [← Nat.pow_succ]; congr 1; omega
 generalize ys[m - 1]'(by omega) = c at *
 have hD : D = 2 ^ (64 - s) * 2 ^ s := by rw [← Nat.pow_add, show 64 - s + s = 64 by omega]; rfl
 have hc : c < 2 ^ (64 - s) := by rw [hD] at hs; exact Nat.lt_of_mul_lt_mul_right hs
 have h5 : (c + 1) * 2 ^ s ≤ D := by rw [hD]; exact Nat.mul_le_mul_right _ hc
 rw [hP, h3]
 have h6 := Nat.mul_le_mul_left (D ^ (m - 1)) h5
 have h7 : dv (ys.take (m - 1)) + D ^ (m - 1) * c < D ^ (m - 1) * (c + 1) := by rw [Nat.mul_add, Nat.mul_one]; omega
 have h8 := Nat.mul_lt_mul_of_pos_right h7 (Nat.two_pow_pos s)
 rw [Nat.mul_assoc (D ^ (m - 1))] at h8
 omega
theorem low_bound (ys : List Nat) (m : Nat) (hl : ys.length = m) (hm : 0 < m) (ht : 0 < ys[m - 1]'(by omega)) : D ^ (m - 1) ≤ dv ys := by
 have h3 := dv_take_succ ys (m - 1) (by omega)
 rw [show m - 1 + 1 = m from by omega, List.take_of_length_le (by omega)] at h3
 have := Nat.mul_le_mul_left (D ^ (m - 1)) ht
 omega
theorem start_bound (X V0 n m s : Nat) (hX : X < D ^ n) (hV : D ^ (m - 1) ≤ V0) (hm : 0 < m) (hmn : m ≤ n) : X * 2 ^ s < V0 * 2 ^ s * D ^ (n + 1 - m) := by
 have h1 : D ^ n = D ^ (m - 1) * D ^ (n + 1 - m) := by rw [← Nat.pow_add]; congr 1; omega
 have h2 := Nat.mul_le_mul_right (D ^ (n + 1 - m)) hV
 have h3 : X < V0 * D ^ (n + 1 - m) := by omega
 rw [Nat.mul_right_comm]
 exact Nat.mul_lt_mul_of_pos_right h3 (Nat.two_pow_pos s)
theorem end_quo (X V0 s Q R : Nat) (hV : 0 < V0) (h : X * 2 ^ s = V0 * 2 ^ s * Q + R) (hR : R < V0 * 2 ^ s) : Q = X / V0 ∧ R / 2 ^ s = X % V0 := by
 have hS := Nat.two_pow_pos s
 have hVS : 0 < V0 * 2 ^ s := Nat.mul_pos hV hS
 constructor
 ·have : X * 2 ^ s / (V0 * 2 ^ s) = Q := by rw [h, Nat.mul_add_div hVS, Nat.div_eq_of_lt hR, Nat.add_zero]
  rw [Nat.mul_div_mul_right _ _ hS] at this
  exact this.symm
 ·have : X * 2 ^ s % (V0 * 2 ^ s) = R := by rw [h, Nat.mul_add_mod, Nat.mod_eq_of_lt hR]
  rw [Nat.mul_mod_mul_right] at this
  rw [← this, Nat.mul_div_cancel _ hS]
theorem take_low (z : List Nat) (m : Nat) (hm : m ≤ z.length) (h : dv z < D ^ m) : dv (z.take m) = dv z := by
 have h1 := dv_take_drop z m hm
 have h2 : dv (z.drop m) = 0 := by
  rcases Nat.eq_zero_or_pos (dv (z.drop m)) with q | q
  ·exact q
  ·have := Nat.mul_le_mul_left (D ^ m) q
   omega
 rw [h2, Nat.mul_zero, Nat.add_zero] at h1
 exact h1.symm
theorem blk_three {w : World} {g : Nat} {t : TypeId} {rs : List Nat} (k m : Nat) (h : Blk w g t (rs.map U)) : Blk w g t ((rs.take k).map U ++ ((rs.drop k).take (m + 1)).map U ++ (rs.drop (k + (m + 1))).map U) :=
 h.cast (by rw [List.append_assoc, ← List.map_append, ← List.map_append, ← three])
set_option maxRecDepth 100000 in
set_option maxHeartbeats 3200000 in
theorem divideByDigits_any (n m capx capy : Nat) (p q : Option Addr) (xs ys : List Nat) (w : World) (hx : Dg w p n xs) (hy : Dg w q m ys) (hn : n ≤ 8796093022208) (hm2 : 2 ≤ m) (hmn : m ≤ n) (cy : tlen ys = m) :
  Calls Tryz.prog 179 #[.slice p n capx, .slice q m capy] w fun e w' => ∃ v1 v2, e = .returned (.tuple #[v1, v2]) ∧ OwnD w' w.heap.size v1 (dv xs / dv ys) ∧ OwnD w' w.heap.size v2 (dv xs % dv ys) ∧ Ch w.heap.size none1 w w' := by
 obtain ⟨i0, hi, hz0, hz1, hz2⟩ := info_parts Tryz.info52
 obtain ⟨gy, oy, rfl⟩ := hy.addr (by omega)
 have htop := top_pos ys m hy.len (by omega) cy
 have c3 := hy.get (m - 1) (by omega)
 have hyb : ys[m - 1]'(by rw [hy.len]; omega) < D := hy.lt _ (List.getElem_mem _)
 obtain ⟨hs64, hY1, hY2⟩ := lz_facts _ hyb htop
 have hnt := norm_top ys m _ hy.lt hy.len (by omega) hY2 hs64
 have hlb := low_bound ys m hy.len (by omega) htop
 have hlz := fun w => lz_any (ys[m - 1]'(by rw [hy.len]; omega)) w hyb
 generalize ys[m - 1]'(by rw [hy.len]; omega) = yt at *
 generalize lz yt = s at *
 have hxlt := dv_lt hx.lt
 rw [hx.len] at hxlt
 have hsb := start_bound (dv xs) (dv ys) n m s hxlt hlb (by omega) hmn
 have hV0 : 0 < dv ys := Nat.lt_of_lt_of_le (Nat.pow_pos D_pos) hlb
 have hVS : 0 < dv ys * 2 ^ s := Nat.mul_pos hV0 (Nat.two_pow_pos s)
 have HLZ := Lib.hid hlz; clear hlz hY1 hY2 htop hyb hxlt hlb cy
 have HSB := Lib.hid hsb; clear hsb
 have HNT := Lib.hid hnt; clear hnt
 have HX := Lib.hid hx; clear hx
 have HY := Lib.hid hy; clear hy
 go_enter Tryz.func179, Tryz.ntmps179
 go_wp2_with fail
 refine (HLZ.out _).mono ?_
 rintro e w' ⟨rfl, rfl⟩
 obtain ⟨w, rfl⟩ : ∃ w : World, w = w' := ⟨_, rfl⟩
 go_wp2_with fail
 refine (shiftedLeft_any _ m capy s ys _ HY.out (by omega) hs64).mono ?_
 rintro e w1 ⟨g1, z1, rfl, hg1, hB1, hz1d, hz1l, hz1v, hC1⟩
 have hx1 := Dg.ch hC1 HX.out (fun a ha => ⟨HX.out.lt_size a ha, fun q => q⟩)
 have HX1 := Lib.hid hx1; clear hx1
 have HZ1 := Lib.hid hz1l; clear hz1l
 have HV1 := Lib.hid hz1v; clear hz1v
 go_wp2_with fail
 refine (shiftedLeft_any p n capx s xs _ HX1.out (by omega) hs64).mono ?_
 rintro e w2 ⟨g2, z2, rfl, hg2, hB2, hz2d, hz2l, hz2v, hC2⟩
 have HZ2 := Lib.hid hz2l; clear hz2l
 have HV2 := Lib.hid hz2v; clear hz2v
 have hlt1 := hB1.lt
 have hB1' := hC2.blk hB1 hlt1 (fun q => q)
 have hC := hC1.step0 hC2 (Nat.le_refl _)
 have hnm : ((n : Int) + 1 - (m : Int)) = ((n + 1 - m : Nat) : Int) := by omega
 have HNM := Lib.hid hnm; clear hnm hB1 hC1 hC2
 have hsz := hC.size
 go_wp2_with (refine wpList_make_blk _ rfl _ _ 132 rfl 125 i0 .u64 0 Tryz.underlying132 hi hz0 hz1 .i64 .i64 _ _ (n + 1 - m) rfl rfl HNM.out HNM.out (by rw [hz2]; omega) (by unfold maxLen; omega) ?_; intro w3 hB3 hC3)
 have hlt2 := hB2.lt
 have hB1a := hC3.blk hB1' (Nat.lt_of_lt_of_le hB1'.lt (Nat.le_refl _)) (fun q => q)
 have hB2a := hC3.blk hB2 hlt2 (fun q => q)
 have hCa := hC.step0 hC3 (Nat.le_refl _)
 have hg12 : g1 < g2 := by omega
 have hg23 : g2 < w2.heap.size := hlt2
 clear hB1' hB2 hC hC3
 obtain ⟨g3, hg3⟩ : ∃ g3, w2.heap.size = g3 := ⟨_, rfl⟩
 rw [hg3] at hB3 hg23 ⊢
 have hg3w : w.heap.size ≤ g3 := by omega
 clear hg3
 obtain ⟨V, hVe⟩ : ∃ V, dv ys * 2 ^ s = V := ⟨_, rfl⟩
 have hnt := HNT.out
 have hsb := HSB.out
 have hv1 := HV1.out
 have hv2 := HV2.out
 rw [hVe] at hnt hsb hv1 hVS
 have htl := take_low z1 m (by rw [HZ1.out]; omega) (by rw [hv1]; exact hnt)
 rw [hv1] at htl
 have htd : Dok (z1.take m) := hz1d.take m
 have htll : (z1.take m).length = m := by rw [List.length_take, HZ1.out]; omega
 have hdvs : ∀ wr, Blk wr g1 125 (z1.map U) → Dg wr (some ⟨g1, 0, none⟩) m (z1.take m) := fun wr hb =>
  dg_of_blk (post := (z1.drop m).map U) (hb.cast (by rw [← List.map_append, List.take_append_drop])) htd m htll
 have HDV := Lib.hid hdvs; clear hdvs
 have HTL := Lib.hid htl; clear htl
 have HN1 := Lib.hid hnt; clear hnt
 have HVE := Lib.hid hVe; clear hVe hv1
 clear htll HSB HNT
 go_wp2_with fail
 go_loopw [7] (fun i wr => ∃ (k : Nat) (rs qs : List Nat), k ≤ n + 1 - m ∧ i = .int .i64 ((k : Int) - 1) ∧ Dok rs ∧ rs.length = n + 1 ∧ Dok qs ∧ qs.length = n + 1 - m - k ∧ dv xs * 2 ^ s = V * D ^ k * dv qs + dv rs ∧ dv rs < V * D ^ k ∧
   Blk wr g2 125 (rs.map U) ∧ Blk wr g3 125 ([] ++ (List.replicate k 0 ++ qs).map U ++ []) ∧ Blk wr g1 125 (z1.map U) ∧ Ch w.heap.size none1 w wr)
  (fun i _ => (intOf i + 1).toNat)
 case atStart =>
  refine ⟨n + 1 - m, z2, [], Nat.le_refl _, by go_num, hz2d, HZ2.out, Dok.nil, by simp, ?_, ?_, hB2a, hB3.cast (by simp), hB1a, hCa⟩
  ·rw [hv2, dv_nil, Nat.mul_zero, Nat.zero_add]
  ·rw [hv2]; exact hsb
 case round =>
  clear hB2a hB3 hB1a hCa hv2 hsb
  obtain ⟨k, rs, qs, hk, rfl, hr, hrl, hq, hql, hX, hXl, hB2, hB3, hB1, hC⟩ := hrel
  have HRL := Lib.hid hrl; clear hrl
  have HQL := Lib.hid hql; clear hql
  rcases k with _ | k
  ·rw [Nat.pow_zero, Nat.mul_one] at hX hXl
   have htk := take_low rs m (by rw [HRL.out]; omega) (Nat.lt_trans hXl HN1.out)
   have he := end_quo (dv xs) (dv ys) s (dv qs) (dv rs) hV0 (by rw [HVE.out]; exact hX) (by rw [HVE.out]; exact hXl)
   have HE := Lib.hid he; clear he hX hXl
   have HTK := Lib.hid htk; clear htk
   have hB2' : Blk wr g2 125 ([] ++ (rs.take m).map U ++ (rs.drop m).map U) := hB2.cast (by rw [List.nil_append, ← List.map_append, List.take_append_drop])
   have hq3 := hB3.lt
   go_wp2_with fail
   refine (shiftRight_any m (n + 1) s g2 0 _ [] _ (rs.take m) _ (hr.take m) (by rw [List.length_take, HRL.out]; omega) (by omega) hs64 hB2' rfl).mono ?_
   rintro e w4 ⟨zs, rfl, hz, hzl, hzv, hB4, hC4⟩
   have HZ := Lib.hid hzl; clear hzl
   rw [HTK.out] at hzv
   have HV := Lib.hid hzv; clear hzv
   have hB3' := hC4.blk hB3 hq3 (fun q => by omega)
   have hB4' : Blk w4 g2 125 (zs.map U ++ (rs.drop m).map U) := hB4.cast (by simp)
   have hB3'' : Blk w4 g3 125 (qs.map U ++ []) := hB3'.cast (by simp)
   have hC5 := hC.step hC4 (Nat.le_refl _) (fun j hj q => absurd q (by omega))
   clear hB4 hB3' hB3 hC
   have hd3 := dg_of_blk hB3'' hq (n + 1 - m) (by rw [HQL.out]; omega)
   have hd4 := dg_of_blk hB4' hz m HZ.out
   have HD3 := Lib.hid hd3; clear hd3
   have HD4 := Lib.hid hd4; clear hd4
   go_wp2_with fail
   refine (dtrim_any _ (n + 1 - m) (n + 1 - m) qs _ HD3.out (Nat.le_refl _) (by unfold maxLen; omega)).mono ?_
   rintro e w5 ⟨rfl, rfl⟩
   go_wp2_with fail
   refine (dtrim_any _ m (n + 1) zs _ HD4.out (by omega) (by unfold maxLen; omega)).mono ?_
   rintro e w6 ⟨rfl, rfl⟩
   go_wp2_with fail
   go_ret2
   refine ⟨_, _, rfl, ?_, ?_, hC5⟩
   ·have := OwnD.of_blk' (B := w.heap.size) hB3'' hq (cap := n + 1 - m) (by rw [HQL.out]; simp) (by unfold maxLen; omega) (by omega)
    rwa [HE.out.1] at this
   ·have := OwnD.of_blk' (B := w.heap.size) hB4' hz (cap := n + 1) (by rw [HZ.out, List.length_map, List.length_drop, HRL.out]; omega) (by unfold maxLen; omega) (by omega)
    rwa [HV.out, HE.out.2] at this
  ·obtain ⟨l1, _, l3⟩ := long_step rs qs k m n V (dv xs * 2 ^ s) hr HRL.out (by omega) hX hXl HN1.out
   have L3 := Lib.hid l3; clear l3 hX hXl
   have hB2' := blk_three k m hB2
   have hmd : Dok ((rs.drop k).take (m + 1)) := (hr.drop k).take _
   have hmdl : ((rs.drop k).take (m + 1)).length = m + 1 := by rw [List.length_take, List.length_drop, HRL.out]; omega
   have HMDL := Lib.hid hmdl; clear hmdl
   have hddv := HDV.out wr hB1
   have HDDV := Lib.hid hddv; clear hddv
   have hq3 := hB3.lt
   have hq1 := hB1.lt
   have hrk : ((rs.take k).map U).length = k := by rw [List.length_map, List.length_take, HRL.out]; omega
   have HRK := Lib.hid hrk; clear hrk
   go_wp2_with fail
   rw [show k + m + 1 - k = m + 1 from by omega]
   refine (divideStep_any m (n + 1 - k) (m + 1) g2 k g1 0 _ _ _ ((rs.drop k).take (m + 1)) (z1.take m) _ hmd HMDL.out (by omega) (by omega) (by omega) hB2' HRK.out HDDV.out (by omega) (by rw [HTL.out]; exact hVS) (by rw [HTL.out]; exact l1)).mono ?_
   rintro e w4 ⟨zs, rfl, hz, hzl, hzv, hB4, hC4⟩
   rw [HTL.out] at hzv ⊢
   have hst := L3.out zs hz hzl hzv hVS
   have hqd := step_bound V _ m (dv ((rs.drop k).take (m + 1)) / V) hVS l1 rfl
   generalize dv ((rs.drop k).take (m + 1)) / V = qd at *
   have HST := Lib.hid hst; clear hst hzv l1
   have HZ := Lib.hid hzl; clear hzl
   have hB3' := hC4.blk hB3 hq3 (fun q => by omega)
   have hB1' := hC4.blk hB1 hq1 (fun q => by omega)
   have hC5 := hC.step hC4 (Nat.le_refl _) (fun j hj q => absurd q (by omega))
   clear hB3 hB1 hC
   have hB3'' : Blk w4 g3 125 ([] ++ (List.replicate k 0 ++ 0 :: qs).map U ++ []) := hB3'.cast (by rw [List.replicate_succ']; simp)
   clear hB3'
   have c1 := hB3''.cell (0 + k)
   rw [mid_get [] [] (List.replicate k 0) qs 0 0 k rfl (by simp), Nat.zero_add] at c1
   have f1 := hB3''.frozen k
   go_wp2_with fail
   go_roundw
   case rel =>
    refine ⟨k, rs.take k ++ (zs ++ rs.drop (k + (m + 1))), qd :: qs, by omega, by go_num, (hr.take k).append (hz.append (hr.drop _)), ?_, Dok.cons hqd hq, by rw [List.length_cons, HQL.out]; omega, HST.out.1, HST.out.2, ?_, ?_, hB1'.set_other (by omega) _ _, hC5.setCell (.inl (by omega)) _⟩
    ·rw [List.length_append, List.length_append, List.length_take, List.length_drop, HRL.out, HZ.out]; omega
    ·exact (hB4.set_other (by omega) _ _).cast (by simp)
    ·have := (hB3''.set (0 + k) (U qd)).cast (mid_set [] [] (List.replicate k 0) qs 0 qd 0 k rfl (by simp))
     rw [Nat.zero_add] at this
     exact this.cast (by simp)
   case measure => simp [intOf]
end Go.Proofs.YtkeomlpecjjhiaaGreatDoor
namespace Go.Proofs.YtkeomlpecjjhiaaGreatDoor
open Go.RowKit
theorem OwnD.nil (w : World) (B : Nat) : OwnD w B (.slice none 0 0) 0 := by
 unfold OwnD
 rw [ds_zero]
 exact World.ownsRow_nil w B _ 1
theorem own_blk {w : World} {B n : Nat} {v : Value} {xs : List Nat} (h : w.ownsRow B 125 1 v n (xs.map U)) (hn : 0 < n) :
  ∃ g cap post, v = .slice (some ⟨g, 0, none⟩) n cap ∧ B ≤ g ∧ Blk w g 125 (xs.map U ++ post) ∧ n + post.length = cap ∧ cap ≤ maxLen := by
 obtain ⟨h1, h2⟩ := h
 rcases h2 with ⟨_, rfl⟩ | ⟨g, cap, cur, rfl, hb, hg, hn', hm, hs, ht⟩
 ·omega
 ·refine ⟨g, cap, cur.toList.drop n, rfl, hb, ?_, ?_, hm⟩
  ·unfold Blk
   rw [← ht, Nat.mul_one, List.take_append_drop]
   simpa using hg
  ·rw [List.length_drop, Array.length_toList]; omega
theorem ds_pos_len {N : Nat} (h : 0 < N) : 0 < (ds N).length := by
 rw [ds_pos N (by omega)]; simp
theorem ds_one (N : Nat) (h : (ds N).length = 1) : N < D ∧ (ds N) = [N] := by
 have h1 := (ds_len N 1).1 (by omega)
 rw [Nat.pow_one] at h1
 refine ⟨h1, ?_⟩
 by_cases h0 : N = 0
 ·subst h0; rw [ds_zero] at h; simp at h
 ·rw [ds_pos N h0, Nat.mod_eq_of_lt h1, Nat.div_eq_of_lt h1, ds_zero]
set_option maxRecDepth 100000 in
set_option maxHeartbeats 3200000 in
theorem divide_any (n m capx capy X Y : Nat) (p q : Option Addr) (w : World) (hx : Dg w p n (ds X)) (hy : Dg w q m (ds Y)) (hn : n ≤ 8796093022208) (hm : m ≤ 8796093022208) (hY : 0 < Y) :
  Calls Tryz.prog 142 #[.slice p n capx, .slice q m capy] w fun e w' => ∃ v1 v2, e = .returned (.tuple #[v1, v2]) ∧ OwnD w' w.heap.size v1 (X / Y) ∧ ((X < Y ∧ v2 = .slice p n capx) ∨ OwnD w' w.heap.size v2 (X % Y)) ∧ Ch w.heap.size none1 w w' := by
 have hxl := hx.len
 have hyl := hy.len
 have hcmp := fun w2 (h1 : Dg w2 p n (ds X)) (h2 : Dg w2 q m (ds Y)) => compare_any p q n m capx capy _ _ w2 h1 h2 (by rw [tlen_ds]; exact hxl) (by rw [tlen_ds]; exact hyl) (by omega) (by omega)
 rw [dv_ds, dv_ds] at hcmp
 have hm0 : 0 < m := by rw [← hyl]; exact ds_pos_len hY
 have hx0 := hx.lt_size
 have hy0 := hy.lt_size
 by_cases hlt : X < Y
 ·rw [cmpN_lt hlt] at hcmp
  have HC := Lib.hid (hcmp w hx hy); clear hcmp
  have hq0 : ∀ w B, OwnD w B (.slice none 0 0) (X / Y) := fun w B => by rw [Nat.div_eq_of_lt hlt]; exact OwnD.nil w B
  have HQ := Lib.hid hq0; clear hq0
  have HLT := Lib.hid hlt
  clear hxl hyl hx hy
  go_enter Tryz.func142, Tryz.ntmps142
  go_wp2_with fail
  refine HC.out.mono ?_
  rintro e w1 ⟨rfl, hC1⟩
  go_wp2_with fail
  go_ret2
  exact ⟨_, _, rfl, HQ.out _ _, .inl ⟨HLT.out, rfl⟩, hC1⟩
 ·obtain ⟨c, hcc, hc0⟩ := cmpN_ge (show Y ≤ X by omega)
  rw [hcc] at hcmp
  have HC := Lib.hid (hcmp w hx hy); clear hcmp hcc
  have hn0 : 0 < n := by rw [← hxl]; exact ds_pos_len (by omega)
  have hmn : m ≤ n := by
   rw [← hxl, ← hyl]
   exact (ds_len _ _).2 (Nat.lt_of_le_of_lt (show Y ≤ X by omega) ((ds_len _ _).1 (Nat.le_refl _)))
  obtain ⟨gx, ox, rfl⟩ := hx.addr hn0
  obtain ⟨gy, oy, rfl⟩ := hy.addr hm0
  have HXL := Lib.hid hxl; clear hxl
  have HX := Lib.hid hx; clear hx
  have HX0 := Lib.hid hx0; clear hx0
  have HY0 := Lib.hid hy0; clear hy0
  by_cases hm1 : m = 1
  ·subst hm1
   obtain ⟨hYD, hYl⟩ := ds_one Y hyl
   have HY := Lib.hid hy; clear hy
   have HYL := Lib.hid hYl; clear hYl hyl
   go_enter Tryz.func142, Tryz.ntmps142
   go_wp2_with fail
   refine HC.out.mono ?_
   rintro e w1 ⟨rfl, hC1⟩
   have hx1 := Dg.ch hC1 HX.out (fun a ha => ⟨HX0.out a ha, fun q => q⟩)
   have hy1 := Dg.ch hC1 HY.out (fun a ha => ⟨HY0.out a ha, fun q => q⟩)
   have HX1 := Lib.hid hx1; clear hx1
   have HY1 := Lib.hid hy1; clear hy1
   go_wp2_with fail
   refine (clone_any gx ox n capx _ _ HX1.out hn0 (by omega)).mono ?_
   rintro e w2 ⟨v, rfl, hown, hC2⟩
   obtain ⟨g, cap, post, rfl, hg, hB, hpl, hcm⟩ := own_blk hown hn0
   have hy2 := Dg.ch hC2 HY1.out (fun a ha => ⟨HY1.out.lt_size a ha, fun q => q⟩)
   have c1 := hy2.get 0 (by omega)
   have hyv : (ds Y)[0]'(by rw [hy2.len]; omega) = Y := by simp [HYL.out]
   rw [hyv, Nat.add_zero] at c1
   have hC := hC1.step0 hC2 (Nat.le_refl _)
   have hsz := hC1.size
   clear hown hy2 hyv
   have hB' : Blk w2 g 125 ([] ++ (ds X).map U ++ post) := hB.cast (by simp)
   clear hB
   go_wp2_with fail
   refine (divideByWord_any n cap Y g 0 _ [] post (ds X) _ (dok_ds X) HXL.out (by omega) hY hYD hB' rfl).mono ?_
   rintro e w3 ⟨zs, rfl, hz, hzl, hzv, hB3, hC3⟩
   rw [dv_ds] at hzv ⊢
   have HZ := Lib.hid hzl; clear hzl
   have HZV := Lib.hid hzv; clear hzv
   have hB4 : Blk w3 g 125 (zs.map U ++ post) := hB3.cast (by simp)
   clear hB3 hB' c1
   have hd4 := dg_of_blk hB4 hz n HZ.out
   have HD4 := Lib.hid hd4; clear hd4
   have hC5 := hC.step hC3 (Nat.le_refl _) (fun j hj q => absurd q (by omega))
   have hrl : X % Y < D := Nat.lt_trans (Nat.mod_lt _ hY) hYD
   obtain ⟨r, hr⟩ : ∃ r, X % Y = r := ⟨_, rfl⟩
   rw [hr] at hrl ⊢
   have HR := Lib.hid hr; clear hr
   go_wp2_with fail
   refine (dtrim_any _ n cap zs _ HD4.out (by omega) hcm).mono ?_
   rintro e w5 ⟨rfl, rfl⟩
   have hnew := Blk.new w5 #[U r] 125
   have hnew' : Blk (w5.alloc (.cells #[U r] 125)) w5.heap.size 125 ([r].map U ++ []) := hnew
   have hrd : Dok [r] := Dok.cons hrl Dok.nil
   have hdr := dg_of_blk hnew' hrd 1 rfl
   have HDR := Lib.hid hdr; clear hdr
   go_wp2_with fail
   refine (dtrim_any _ 1 1 [r] _ HDR.out (Nat.le_refl _) (by decide)).mono ?_
   rintro e w6 ⟨rfl, rfl⟩
   have hB5 := hB4.alloc (.cells #[U r] 125)
   have hsz3 := hC5.size
   have hC6 := hC5.alloc hsz3 (.cells #[U r] 125)
   go_wp2_with fail
   go_ret2
   refine ⟨_, _, rfl, ?_, .inr ?_, hC6⟩
   ·have := OwnD.of_blk' (B := w.heap.size) hB5 hz (cap := cap) (by rw [HZ.out]; exact hpl) hcm (by omega)
    rwa [HZV.out] at this
   ·have := OwnD.of_blk' (B := w.heap.size) hnew' hrd (cap := 1) rfl (by decide) hsz3
    rw [show dv [r] = r from by simp [dv]] at this
    rw [HR.out]
    exact this
  ·have hb1 : (((m : Nat) : Int) == 1) = false := by rw [beq_eq_false_iff_ne]; omega
   have hcy : tlen (ds Y) = m := by rw [tlen_ds]; exact hyl
   have HCY := Lib.hid hcy; clear hcy hyl
   have HY := Lib.hid hy; clear hy
   go_enter Tryz.func142, Tryz.ntmps142
   go_wp2_with fail
   refine HC.out.mono ?_
   rintro e w1 ⟨rfl, hC1⟩
   have hx1 := Dg.ch hC1 HX.out (fun a ha => ⟨HX0.out a ha, fun q => q⟩)
   have hy1 := Dg.ch hC1 HY.out (fun a ha => ⟨HY0.out a ha, fun q => q⟩)
   have HX1 := Lib.hid hx1; clear hx1
   have HY1 := Lib.hid hy1; clear hy1
   go_wp2_with fail
   refine (divideByDigits_any n m capx capy _ _ _ _ _ HX1.out HY1.out hn (by omega) hmn HCY.out).mono ?_
   rintro e w2 ⟨v1, v2, rfl, ho1, ho2, hC2⟩
   rw [dv_ds, dv_ds] at ho1 ho2
   have hC := hC1.step0 hC2 (Nat.le_refl _)
   have hsz := hC1.size
   go_wp2_with fail
   go_ret2
   exact ⟨_, _, rfl, ho1.mono hsz, .inr (ho2.mono hsz), hC⟩
theorem wordNat_int (z : Int) (w : World) (h0 : 0 ≤ z) (h1 : z ≤ 18446744073709551615) :
  Calls Tryz.prog 136 #[.int .u64 z] w fun e w' => e = .returned (S (nb z.toNat)) ∧ Ch w.heap.size none1 w w' := by
 obtain ⟨m, rfl⟩ := Int.eq_ofNat_of_zero_le h0
 exact wordNat_any m w (by omega)
set_option maxRecDepth 100000 in
set_option maxHeartbeats 1600000 in
theorem Quo_yes (a b : List UInt8) (w : World) (ha : a.length ≤ LIM) (hb : b.length ≤ LIM) (h : 0 < bv b) :
  Calls Tryz.prog 102 #[S a, S b] w fun e w' => e = .returned (.tuple #[S (nb (bv a / bv b)), S (nb (bv a % bv b)), .bool true]) ∧ Ch w.heap.size none1 w w' := by
 have ham : a.length ≤ maxLen := by unfold LIM at ha; unfold maxLen; omega
 have hbm : b.length ≤ maxLen := by unfold LIM at hb; unfold maxLen; omega
 have hc := fun w => cmp_any b [] w hbm (Nat.zero_le _)
 rw [bv_nil, cmpN_gt h] at hc
 have HC := Lib.hid hc; clear hc
 by_cases hw : bv a < 18446744073709551616 ∧ bv b < 18446744073709551616
 ·obtain ⟨h1, h2⟩ := hw
  have hbb := nat_ne_bool (show bv b ≠ 0 by omega)
  have hwy := fun w => words_yes a b w ham hbm h1 h2
  have hq1 := u64_div (bv a) (bv b) h1
  have hr1 : ((bv a : Nat) : Int).tmod ((bv b : Nat) : Int) = ((bv a % bv b : Nat) : Int) := by rw [Int.tmod_eq_emod_of_nonneg (by omega)]; exact (Int.natCast_emod _ _).symm
  have hq2 : IntKind.u64.wrap (((bv a : Nat) : Int).tdiv ((bv b : Nat) : Int)) = ((bv a / bv b : Nat) : Int) := by rw [Int.tdiv_eq_ediv_of_nonneg (by omega)]; exact hq1
  have hql := Nat.lt_of_le_of_lt (Nat.div_le_self (bv a) (bv b)) h1
  have hrl := Nat.lt_trans (Nat.mod_lt (bv a) h) h2
  have HW := Lib.hid hwy; clear hwy
  have hql2 : bv a / bv b ≤ 18446744073709551615 := by omega
  have hrl2 : bv a % bv b ≤ 18446744073709551615 := by omega
  clear hql hrl
  generalize bv a / bv b = qq at *
  generalize bv a % bv b = rr at *
  generalize bv a = x at *
  generalize bv b = y at *
  go_enter Tryz.func102, Tryz.ntmps102
  go_wp2_with fail
  refine (HC.out _).mono ?_
  rintro e w' ⟨rfl, rfl⟩
  obtain ⟨w, rfl⟩ : ∃ w : World, w = w' := ⟨_, rfl⟩
  go_wp2_with fail
  refine (HW.out _).mono ?_
  rintro e w' ⟨rfl, rfl⟩
  obtain ⟨w, rfl⟩ : ∃ w : World, w = w' := ⟨_, rfl⟩
  go_wp2_with fail
  go_region_with (go_at_call 136; refine (wordNat_int _ _ (by omega) (by omega)).mono ?_; rintro e w2 ⟨rfl, hC2⟩)
  all_goals go_wp2_with fail
  all_goals go_ret3
  all_goals exact ⟨rfl, (((Ch.refl w.heap.size none1 w).drew).step0 ‹Ch w.drew.heap.size none1 w.drew _› (Nat.le_refl _)).step0 hC2 (Nat.le_refl _)⟩
 ·go_enter Tryz.func102, Tryz.ntmps102
  go_wp2_with fail
  refine (HC.out _).mono ?_
  rintro e w' ⟨rfl, rfl⟩
  obtain ⟨w, rfl⟩ : ∃ w : World, w = w' := ⟨_, rfl⟩
  go_wp2_with fail
  refine (words_no a b _ ham hbm hw).mono ?_
  rintro e w' ⟨rfl, rfl⟩
  obtain ⟨w, rfl⟩ : ∃ w : World, w = w' := ⟨_, rfl⟩
  clear hw
  go_wp2_with fail
  refine (digitsOf_any a _ (by unfold LIM at ha; omega)).mono ?_
  rintro e w1 ⟨g1, rfl, hB1, hg1, hC1⟩
  go_wp2_with fail
  refine (digitsOf_any b _ (by unfold LIM at hb; omega)).mono ?_
  rintro e w2 ⟨g2, rfl, hB2, hg2, hC2⟩
  have hlt1 := hB1.lt
  have hB1' := hC2.blk hB1 hlt1 (fun q => q)
  have hC := hC1.step0 hC2 (Nat.le_refl _)
  clear hB1 hC1 hC2
  have hna := ds_lim a ha
  have hnb := ds_lim b hb
  have hd1 := dg_of_blk (post := []) (hB1'.cast (by simp)) (dok_ds (bv a)) _ rfl
  have hd2 := dg_of_blk (post := []) (hB2.cast (by simp)) (dok_ds (bv b)) _ rfl
  have HD1 := Lib.hid hd1
  have HD2 := Lib.hid hd2
  clear hd1 hd2 hB1' hB2
  go_wp2_with fail
  refine (divide_any _ _ _ _ (bv a) (bv b) _ _ _ HD1.out HD2.out hna hnb h).mono ?_
  rintro e w3 ⟨v1, v2, rfl, ho1, ho2, hC3⟩
  have hC4 := hC.step0 hC3 (Nat.le_refl _)
  have hd3 : ∃ p n cap, v2 = .slice p n cap ∧ Dg w3 p n (ds (bv a % bv b)) ∧ n ≤ 8796093022208 := by
   rcases ho2 with ⟨hlt, rfl⟩ | ho2
   ·refine ⟨_, _, _, rfl, ?_, hna⟩
    rw [Nat.mod_eq_of_lt hlt]
    exact Dg.ch hC3 HD1.out (fun x hx => ⟨HD1.out.lt_size x hx, fun q => q⟩)
   ·obtain ⟨p, cap, rfl, hd, _, _, _⟩ := ho2.dg
    exact ⟨p, _, cap, rfl, hd, Nat.le_trans ((ds_len _ _).2 (Nat.lt_of_lt_of_le (Nat.mod_lt _ h) (Nat.le_of_lt ((ds_len (bv b) _).1 (Nat.le_refl _))))) hnb⟩
  obtain ⟨p1, cap1, rfl, hd1, _, _, _⟩ := ho1.dg
  obtain ⟨p2, n2, cap2, rfl, hd2, hn2⟩ := hd3
  have hn1 : (ds (bv a / bv b)).length ≤ 8796093022208 := Nat.le_trans ((ds_len _ _).2 (Nat.lt_of_le_of_lt (Nat.div_le_self _ _) ((ds_len (bv a) _).1 (Nat.le_refl _)))) hna
  have HD3 := Lib.hid hd1; clear hd1
  have HD4 := Lib.hid hd2; clear hd2 ho1 ho2
  go_wp2_with fail
  refine (natural_any _ _ _ _ _ HD3.out (by omega)).mono ?_
  rintro e w5 ⟨rfl, hC5⟩
  have hd5 := Dg.ch hC5 HD4.out (fun x hx => ⟨HD4.out.lt_size x hx, fun q => q⟩)
  have HD5 := Lib.hid hd5; clear hd5
  go_wp2_with fail
  refine (natural_any _ _ _ _ _ HD5.out (by omega)).mono ?_
  rintro e w6 ⟨rfl, hC6⟩
  go_wp2_with fail
  go_ret3
  refine ⟨?_, (hC4.step0 hC5 (Nat.le_refl _)).step0 hC6 (Nat.le_refl _)⟩
  rw [dv_ds, dv_ds]
  rfl
end Go.Proofs.YtkeomlpecjjhiaaGreatDoor
namespace Go.Proofs.YtkeomlpecjjhiaaGreatDoor
open Go.RowKit
set_option maxRecDepth 100000 in
set_option maxHeartbeats 1600000 in
theorem Mul_any (a b : List UInt8) (w : World) (ha : a.length ≤ LIM) (hb : b.length ≤ LIM) :
  Calls Tryz.prog 103 #[S a, S b] w fun e w' => e = .returned (S (nb (bv a * bv b))) ∧ Ch w.heap.size none1 w w' := by
 have ham : a.length ≤ maxLen := by unfold LIM at ha; unfold maxLen; omega
 have hbm : b.length ≤ maxLen := by unfold LIM at hb; unfold maxLen; omega
 by_cases hw : bv a < 18446744073709551616 ∧ bv b < 18446744073709551616
 ·obtain ⟨h1, h2⟩ := hw
  have hwy := fun w => words_yes a b w ham hbm h1 h2
  have hmul := fun w => mul64_is (bv a) (bv b) _ _ w h1 h2 rfl rfl
  have HWY := Lib.hid hwy; clear hwy
  by_cases hs : bv a * bv b < D
  ·rw [Nat.mod_eq_of_lt hs, Nat.div_eq_of_lt hs] at hmul
   have HW := Lib.hid (fun w => wordNat_any (bv a * bv b) w hs)
   have HM := Lib.hid hmul; clear hmul
   generalize hpp : bv a * bv b = pp at *
   have HP := Lib.hid hpp; clear hpp h1 h2 hs
   go_enter Tryz.func103, Tryz.ntmps103
   go_wp2_with fail
   refine (HWY.out _).mono ?_
   rintro e w' ⟨rfl, rfl⟩
   obtain ⟨w, rfl⟩ : ∃ w : World, w = w' := ⟨_, rfl⟩
   go_wp2_with fail
   refine (HM.out _).mono ?_
   rintro e w' ⟨rfl, rfl⟩
   obtain ⟨w, rfl⟩ : ∃ w : World, w = w' := ⟨_, rfl⟩
   go_wp2_with fail
   refine (HW.out _).mono ?_
   rintro e w2 ⟨rfl, hC⟩
   go_wp2_with fail
   go_ret
   exact ⟨rfl, hC⟩
  ·have hq : bv a * bv b / D ≠ 0 := by
    rw [Nat.div_ne_zero_iff]; exact ⟨Nat.ne_of_gt D_pos, by omega⟩
   have hb0 := nat_ne_bool hq
   have HM := Lib.hid hmul; clear hmul
   generalize bv a * bv b / D = qq at *
   generalize bv a * bv b % D = rr at *
   clear hs h1 h2
   go_enter Tryz.func103, Tryz.ntmps103
   go_wp2_with fail
   refine (HWY.out _).mono ?_
   rintro e w' ⟨rfl, rfl⟩
   obtain ⟨w, rfl⟩ : ∃ w : World, w = w' := ⟨_, rfl⟩
   go_wp2_with fail
   refine (HM.out _).mono ?_
   rintro e w' ⟨rfl, rfl⟩
   obtain ⟨w, rfl⟩ : ∃ w : World, w = w' := ⟨_, rfl⟩
   go_wp2_with fail
   clear hq hb0
   refine (digitsOf_any a _ (by unfold LIM at ha; omega)).mono ?_
   rintro e w1 ⟨g1, rfl, hB1, hg1, hC1⟩
   go_wp2_with fail
   refine (digitsOf_any b _ (by unfold LIM at hb; omega)).mono ?_
   rintro e w2 ⟨g2, rfl, hB2, hg2, hC2⟩
   have hlt1 := hB1.lt
   have hB1' := hC2.blk hB1 hlt1 (fun q => q)
   have hC := hC1.step0 hC2 (Nat.le_refl _)
   clear hB1 hC1 hC2
   have hna := ds_lim a ha
   have hnb := ds_lim b hb
   have hd1 := dg_of_blk (post := []) (hB1'.cast (by simp)) (dok_ds (bv a)) _ rfl
   have hd2 := dg_of_blk (post := []) (hB2.cast (by simp)) (dok_ds (bv b)) _ rfl
   have HD1 := Lib.hid hd1
   have HD2 := Lib.hid hd2
   clear hd1 hd2 hB1' hB2
   go_wp2_with fail
   refine (multiply_any _ _ _ _ _ _ _ _ _ HD1.out HD2.out hna hnb).mono ?_
   rintro e w3 ⟨v, rfl, ho, hC3⟩
   rw [dv_ds, dv_ds] at ho
   have hC4 := hC.step0 hC3 (Nat.le_refl _)
   obtain ⟨p, cap, rfl, hd, _, _, _⟩ := ho.dg
   have hnl : (ds (bv a * bv b)).length ≤ 17592186044416 := by
    have h1 := mul_bound D _ _ _ _ ((ds_len (bv a) _).1 (Nat.le_refl _)) ((ds_len (bv b) _).1 (Nat.le_refl _))
    have h2 := (ds_len _ _).2 h1
    omega
   have HD3 := Lib.hid hd; clear hd ho
   go_wp2_with fail
   refine (natural_any _ _ _ _ _ HD3.out hnl).mono ?_
   rintro e w5 ⟨rfl, hC5⟩
   go_wp2_with fail
   go_ret
   exact ⟨by rw [dv_ds]; rfl, hC4.step0 hC5 (Nat.le_refl _)⟩
 ·go_enter Tryz.func103, Tryz.ntmps103
  go_wp2_with fail
  refine (words_no a b _ ham hbm hw).mono ?_
  rintro e w' ⟨rfl, rfl⟩
  obtain ⟨w, rfl⟩ : ∃ w : World, w = w' := ⟨_, rfl⟩
  clear hw
  go_wp2_with fail
  refine (digitsOf_any a _ (by unfold LIM at ha; omega)).mono ?_
  rintro e w1 ⟨g1, rfl, hB1, hg1, hC1⟩
  go_wp2_with fail
  refine (digitsOf_any b _ (by unfold LIM at hb; omega)).mono ?_
  rintro e w2 ⟨g2, rfl, hB2, hg2, hC2⟩
  have hlt1 := hB1.lt
  have hB1' := hC2.blk hB1 hlt1 (fun q => q)
  have hC := hC1.step0 hC2 (Nat.le_refl _)
  clear hB1 hC1 hC2
  have hna := ds_lim a ha
  have hnb := ds_lim b hb
  have hd1 := dg_of_blk (post := []) (hB1'.cast (by simp)) (dok_ds (bv a)) _ rfl
  have hd2 := dg_of_blk (post := []) (hB2.cast (by simp)) (dok_ds (bv b)) _ rfl
  have HD1 := Lib.hid hd1
  have HD2 := Lib.hid hd2
  clear hd1 hd2 hB1' hB2
  go_wp2_with fail
  refine (multiply_any _ _ _ _ _ _ _ _ _ HD1.out HD2.out hna hnb).mono ?_
  rintro e w3 ⟨v, rfl, ho, hC3⟩
  rw [dv_ds, dv_ds] at ho
  have hC4 := hC.step0 hC3 (Nat.le_refl _)
  obtain ⟨p, cap, rfl, hd, _, _, _⟩ := ho.dg
  have hnl : (ds (bv a * bv b)).length ≤ 17592186044416 := by
   have h1 := mul_bound D _ _ _ _ ((ds_len (bv a) _).1 (Nat.le_refl _)) ((ds_len (bv b) _).1 (Nat.le_refl _))
   have h2 := (ds_len _ _).2 h1
   omega
  have HD3 := Lib.hid hd; clear hd ho
  go_wp2_with fail
  refine (natural_any _ _ _ _ _ HD3.out hnl).mono ?_
  rintro e w5 ⟨rfl, hC5⟩
  go_wp2_with fail
  go_ret
  exact ⟨by rw [dv_ds]; rfl, hC4.step0 hC5 (Nat.le_refl _)⟩
set_option maxRecDepth 100000 in
set_option maxHeartbeats 1600000 in
theorem commonWord_any (x y : Nat) (w : World) (hx : x < 18446744073709551616) (hy : y < 18446744073709551616) :
  Calls Tryz.prog 183 #[U x, U y] w fun e w' => e = .returned (U (Nat.gcd x y)) ∧ Ch w.heap.size none1 w w' := by
 go_enter Tryz.func183, Tryz.ntmps183
 go_wp2_with fail
 obtain ⟨wo, rfl⟩ : ∃ wo : World, wo = w := ⟨_, rfl⟩
 go_loopw [0, 1] (fun a b wr => ∃ u v : Nat, a = U u ∧ b = U v ∧ u < 18446744073709551616 ∧ v < 18446744073709551616 ∧ Nat.gcd u v = Nat.gcd x y ∧ Ch wo.heap.size none1 wo wr) (fun _ b _ => (intOf b).toNat)
 case atStart => exact ⟨x, y, rfl, rfl, hx, hy, rfl, Ch.refl _ _ _⟩
 case round =>
  obtain ⟨u, v, rfl, rfl, hu, hv, hg, hC⟩ := hrel
  have HG := Lib.hid hg; clear hg
  by_cases h0 : v = 0
  ·subst h0
   go_wp2_with fail
   go_ret
   exact ⟨ret_nat (by rw [← HG.out, Nat.gcd_zero_right]), hC⟩
  ·have hb := ne_bool h0
   have hm := Nat.mod_lt u (show 0 < v by omega)
   have hr : ((u : Nat) : Int).tmod (v : Int) = ((u % v : Nat) : Int) := by rw [Int.tmod_eq_emod_of_nonneg (by omega)]; exact (Int.natCast_emod _ _).symm
   have hr2 : ((u : Nat) : Int) % (v : Int) = ((u % v : Nat) : Int) := (Int.natCast_emod _ _).symm
   have hgg : Nat.gcd v (u % v) = Nat.gcd x y := by rw [Nat.gcd_comm, ← Nat.gcd_rec, Nat.gcd_comm]; exact HG.out
   have HGG := Lib.hid hgg; clear hgg
   generalize u % v = r at *
   go_wp2_with fail
   go_quiet (fail)
   go_wp2_with fail
   go_roundw
   case rel => exact ⟨v, r, rfl, by first | rfl | rw [hr2], hv, by omega, HGG.out, hC.drewN _⟩
   case measure => simp [intOf]; omega
set_option maxRecDepth 100000 in
set_option maxHeartbeats 1600000 in
theorem Gcd_words (a b : List UInt8) (w : World) (ha : a.length ≤ LIM) (hb : b.length ≤ LIM) (h1 : bv a < 18446744073709551616) (h2 : bv b < 18446744073709551616) :
  Calls Tryz.prog 152 #[S a, S b] w fun e w' => e = .returned (S (nb (Nat.gcd (bv a) (bv b)))) ∧ Ch w.heap.size none1 w w' := by
 have ham : a.length ≤ maxLen := by unfold LIM at ha; unfold maxLen; omega
 have hbm : b.length ≤ maxLen := by unfold LIM at hb; unfold maxLen; omega
 have hg : Nat.gcd (bv a) (bv b) < 18446744073709551616 := by
  rcases Nat.eq_zero_or_pos (bv a) with h | h
  ·rw [h, Nat.gcd_zero_left]; exact h2
  ·exact Nat.lt_of_le_of_lt (Nat.gcd_le_left _ h) h1
 go_enter Tryz.func152, Tryz.ntmps152
 go_wp2_with fail
 refine (words_yes a b _ ham hbm h1 h2).mono ?_
 rintro e w' ⟨rfl, rfl⟩
 obtain ⟨w, rfl⟩ : ∃ w : World, w = w' := ⟨_, rfl⟩
 go_wp2_with fail
 refine (commonWord_any _ _ _ h1 h2).mono ?_
 rintro e w1 ⟨rfl, hC1⟩
 go_wp2_with fail
 refine (wordNat_any _ _ hg).mono ?_
 rintro e w2 ⟨rfl, hC2⟩
 go_wp2_with fail
 go_ret
 exact ⟨rfl, hC1.step0 hC2 (Nat.le_refl _)⟩
end Go.Proofs.YtkeomlpecjjhiaaGreatDoor
namespace Go.Proofs.YtkeomlpecjjhiaaGreatDoor
open Go.RowKit
/-- The state of Lehmer's steps: leading bits v, w; multiples a b (first), c e (second). -/
structure Lst (V W : Nat) (v w a b c e : Nat) (s : Bool) : Prop where
 top : e * v + b * w = V
 low : c * v + a * w = W
 det : if s then b * c = a * e + 1 else a * e = b * c + 1
 ord : w ≤ v
theorem Lst.start (V W : Nat) (h : W ≤ V) : Lst V W V W 1 0 0 1 false :=
 ⟨by omega, by omega, by simp, h⟩
theorem Lst.step {V W v w a b c e : Nat} {s : Bool} (h : Lst V W v w a b c e s) (hw : 0 < w) : Lst V W w (v % w) c e (a + v / w * c) (b + v / w * e) (!s) := by
 have hv := Nat.div_add_mod v w
 have hr := Nat.mod_lt v hw
 obtain ⟨h1, h2, h3, h4⟩ := h
 generalize v / w = q at *
 generalize v % w = r at *
 refine ⟨?_, ?_, ?_, by omega⟩
 ·subst hv; grind
 ·subst hv; grind
 ·cases s
  ·simp at h3 ⊢; grind
  ·simp at h3 ⊢; grind
theorem gcd_same {U Z X Y a b c e : Nat} (h1 : e * U + b * Z = X) (h2 : c * U + a * Z = Y) (h3 : U + b * Y = a * X ∨ U + a * X = b * Y) (h4 : Z + c * X = e * Y ∨ Z + e * Y = c * X) : Nat.gcd U Z = Nat.gcd X Y := by
 apply Nat.dvd_antisymm
 ·apply Nat.dvd_gcd
  ·rw [← h1]
   exact Nat.dvd_add (Nat.dvd_mul_left_of_dvd (Nat.gcd_dvd_left _ _) _) (Nat.dvd_mul_left_of_dvd (Nat.gcd_dvd_right _ _) _)
  ·rw [← h2]
   exact Nat.dvd_add (Nat.dvd_mul_left_of_dvd (Nat.gcd_dvd_left _ _) _) (Nat.dvd_mul_left_of_dvd (Nat.gcd_dvd_right _ _) _)
 ·have hX : ∀ k, Nat.gcd X Y ∣ k * X := fun k => Nat.dvd_mul_left_of_dvd (Nat.gcd_dvd_left _ _) _
  have hY : ∀ k, Nat.gcd X Y ∣ k * Y := fun k => Nat.dvd_mul_left_of_dvd (Nat.gcd_dvd_right _ _) _
  apply Nat.dvd_gcd
  ·rcases h3 with h | h
   ·exact (Nat.dvd_add_left (hY b)).1 (h ▸ hX a)
   ·exact (Nat.dvd_add_left (hX a)).1 (h ▸ hY b)
  ·rcases h4 with h | h
   ·exact (Nat.dvd_add_left (hX c)).1 (h ▸ hY e)
   ·exact (Nat.dvd_add_left (hY e)).1 (h ▸ hX c)
theorem Lst.real {V W v w a b c e : Nat} {s : Bool} (h : Lst V W v w a b c e s) (hab : a ≤ b) (hce : c ≤ e) (hw : e ≤ w) (hv : b + e + w ≤ v) (hc : 1 ≤ c)
  {P X Y x y : Nat} (hX : X = V * P + x) (hY : Y = W * P + y) (hx : x < P) (hy : y < P) :
  ∃ U Z : Nat, Z < U ∧ U ≤ Y ∧ Nat.gcd U Z = Nat.gcd X Y ∧ (if s then U + a * X = b * Y ∧ Z + e * Y = c * X else U + b * Y = a * X ∧ Z + c * X = e * Y) := by
 obtain ⟨h1, h2, h3, h4⟩ := h
 have k1 : ∀ m n z, m ≤ n → z ≤ P → m * z ≤ n * P := fun m n z p q => Nat.mul_le_mul p q
 cases s
 ·have h3 : a * e = b * c + 1 := by simpa using h3
  have p1 : b * y ≤ v * P := k1 _ _ _ (by omega) (by omega)
  have p2 : c * x ≤ w * P := k1 _ _ _ (by omega) (by omega)
  obtain ⟨U, hU⟩ : ∃ U, U + b * y = v * P + a * x := ⟨v * P + a * x - b * y, by omega⟩
  obtain ⟨Z, hZ⟩ : ∃ Z, Z + c * x = w * P + e * y := ⟨w * P + e * y - c * x, by omega⟩
  have p3 : (b + e) * y < (b + e) * P := Nat.mul_lt_mul_of_pos_left hy (by omega)
  have p4 : (b + e + w) * P ≤ v * P := Nat.mul_le_mul_right _ hv
  have hlt : Z < U := by
   rw [Nat.add_mul] at p3 p4
   rw [Nat.add_mul] at p3 p4
   omega
  have e1 : U + b * Y = a * X := by subst hX hY h1 h2; clear p1 p2 p3 p4 hlt hx hy k1; grind
  have e2 : Z + c * X = e * Y := by subst hX hY h1 h2; clear p1 p2 p3 p4 hlt hx hy k1; grind
  have e3 : e * U + b * Z = X := by clear p1 p2 p3 p4 hlt hx hy k1 hU hZ h1 h2; grind
  have e4 : c * U + a * Z = Y := by clear p1 p2 p3 p4 hlt hx hy k1 hU hZ h1 h2; grind
  refine ⟨U, Z, hlt, ?_, gcd_same e3 e4 (.inl e1) (.inl e2), by simpa using ⟨e1, e2⟩⟩
  have := Nat.mul_le_mul_right U hc
  omega
 ·have h3 : b * c = a * e + 1 := by simpa using h3
  have p1 : a * x ≤ v * P := k1 _ _ _ (by omega) (by omega)
  have p2 : e * y ≤ w * P := k1 _ _ _ (by omega) (by omega)
  obtain ⟨U, hU⟩ : ∃ U, U + a * x = v * P + b * y := ⟨v * P + b * y - a * x, by omega⟩
  obtain ⟨Z, hZ⟩ : ∃ Z, Z + e * y = w * P + c * x := ⟨w * P + c * x - e * y, by omega⟩
  have p3 : (a + c) * x < (a + c) * P := Nat.mul_lt_mul_of_pos_left hx (by omega)
  have p5 : (a + c) * P ≤ (b + e) * P := Nat.mul_le_mul_right _ (by omega)
  have p4 : (b + e + w) * P ≤ v * P := Nat.mul_le_mul_right _ hv
  have hlt : Z < U := by
   rw [Nat.add_mul] at p3 p4 p5
   rw [Nat.add_mul] at p3 p4 p5
   omega
  have e1 : U + a * X = b * Y := by subst hX hY h1 h2; clear p1 p2 p3 p4 p5 hlt hx hy k1; grind
  have e2 : Z + e * Y = c * X := by subst hX hY h1 h2; clear p1 p2 p3 p4 p5 hlt hx hy k1; grind
  have e3 : e * U + b * Z = X := by clear p1 p2 p3 p4 p5 hlt hx hy k1 hU hZ h1 h2; grind
  have e4 : c * U + a * Z = Y := by clear p1 p2 p3 p4 p5 hlt hx hy k1 hU hZ h1 h2; grind
  refine ⟨U, Z, hlt, ?_, gcd_same e3 e4 (.inr e1) (.inr e2), by simpa using ⟨e1, e2⟩⟩
  have := Nat.mul_le_mul_right U hc
  omega
/-- What the loop's conditions say: sums below the base, no wrap. -/
theorem Lst.bound {V W v w a b c e : Nat} {s : Bool} (h : Lst V W v w a b c e s) (hw : 0 < w) : b + v / w * e ≤ V ∧ a + v / w * c ≤ W ∧ v / w * e ≤ V ∧ v / w * c ≤ W := by
 obtain ⟨h1, h2, _, _⟩ := h
 have hq : v / w * w ≤ v := Nat.div_mul_le_self v w
 generalize v / w = q at *
 have k1 : e * (q * w) ≤ e * v := Nat.mul_le_mul_left _ hq
 have k2 : c * (q * w) ≤ c * v := Nat.mul_le_mul_left _ hq
 have m1 : (b + q * e) * 1 ≤ (b + q * e) * w := Nat.mul_le_mul_left _ hw
 have m2 : (a + q * c) * 1 ≤ (a + q * c) * w := Nat.mul_le_mul_left _ hw
 have e1 : (b + q * e) * w = b * w + e * (q * w) := by grind
 have e2 : (a + q * c) * w = a * w + c * (q * w) := by grind
 omega
theorem Lst.small {V W v w a b c e r : Nat} {s : Bool} (h : Lst V W v w a b c e s) (hV : V < 18446744073709551616) (hr : r < w) (hn : b + v / w * e ≤ r) : b + v / w * e < 4294967296 ∧ e < 4294967296 := by
 have hw : 0 < w := by omega
 obtain ⟨h1, h2, _, h4⟩ := h
 have hq : v / w * w ≤ v := Nat.div_mul_le_self v w
 have hq1 : 1 ≤ v / w := (Nat.one_le_div_iff hw).2 h4
 generalize v / w = q at *
 have k1 : e * (q * w) ≤ e * v := Nat.mul_le_mul_left _ hq
 have e1 : (b + q * e) * w = b * w + e * (q * w) := by grind
 have k2 : (b + q * e) * (b + q * e) ≤ (b + q * e) * w := Nat.mul_le_mul_left _ (by omega)
 have k3 : 1 * e ≤ q * e := Nat.mul_le_mul_right _ hq1
 have k5 : e ≤ b + q * e := by omega
 generalize b + q * e = n at *
 have k4 : n < 4294967296 := by
  rcases Nat.lt_or_ge n 4294967296 with g | g
  ·exact g
  ·have := Nat.mul_le_mul g g
   omega
 omega

theorem lead_div (B lo P p t s r : Nat) (hB : B = s * r) (hP : 0 < P) (hr : 0 < r) (hlo : lo < P) :
  (lo + P * (p + B * t)) / (P * r) = t * s + p / r ∧ ∃ x, x < P * r ∧ lo + P * (p + B * t) = (t * s + p / r) * (P * r) + x := by
 have e1 : (lo + P * (p + B * t)) / (P * r) = t * s + p / r := by
  rw [← Nat.div_div_eq_div_mul, Nat.add_mul_div_left _ _ hP, Nat.div_eq_of_lt hlo, Nat.zero_add, hB, show p + s * r * t = p + r * (t * s) from by grind, Nat.add_mul_div_left _ _ hr, Nat.add_comm]
 refine ⟨e1, (lo + P * (p + B * t)) % (P * r), Nat.mod_lt _ (Nat.mul_pos hP hr), ?_⟩
 rw [← e1]
 exact (Nat.div_add_mod' _ _).symm

/-- The first 64 bits of a number of at least two digits, shifted so that its last digit's top bit is bit 63, and those of another one that is not greater. -/
theorem lead_bits (xs : List Nat) (n s t p : Nat) (hn : xs.length = n + 2) (hx : Dok xs) (hs : s ≤ 64) (ht : xs[n + 1]'(by omega) = t) (hp : xs[n]'(by omega) = p) (hts : t * 2 ^ s < D) :
  ∃ x, x < D ^ n * 2 ^ (64 - s) ∧ dv xs = (t * 2 ^ s + p / 2 ^ (64 - s)) * (D ^ n * 2 ^ (64 - s)) + x ∧ t * 2 ^ s + p / 2 ^ (64 - s) < D ∧ dv xs / (D ^ n * 2 ^ (64 - s)) = t * 2 ^ s + p / 2 ^ (64 - s) := by
 have hD : D = 2 ^ s * 2 ^ (64 - s) := by rw [← Nat.pow_add, show s + (64 - s) = 64 by omega]; rfl
 have h1 := dv_take_succ xs (n + 1) (by omega)
 have h2 := dv_take_succ xs n (by omega)
 have h3 : xs.take (n + 1 + 1) = xs := List.take_of_length_le (by omega)
 rw [h3, ht, h2, hp] at h1
 have hlo := dv_lt (hx.take n)
 rw [List.length_take, Nat.min_eq_left (by omega)] at hlo
 have e : dv xs = dv (xs.take n) + D ^ n * (p + D * t) := by rw [h1, Nat.pow_succ]; grind
 obtain ⟨e1, x, hxl, hxe⟩ := lead_div D (dv (xs.take n)) (D ^ n) p t (2 ^ s) (2 ^ (64 - s)) hD (Nat.pow_pos D_pos) (Nat.two_pow_pos _) hlo
 rw [← e] at e1 hxe
 refine ⟨x, hxl, hxe, ?_, e1⟩
 have hpb : p < D := by rw [← hp]; exact hx.get n (by omega)
 have hq : p / 2 ^ (64 - s) < 2 ^ s := (Nat.div_lt_iff_lt_mul (Nat.two_pow_pos _)).2 (by rw [← hD]; exact hpb)
 have hm : (t + 1) * 2 ^ s ≤ D := by
  have : t < 2 ^ (64 - s) := by
   rw [hD, Nat.mul_comm (2 ^ s)] at hts
   exact Nat.lt_of_mul_lt_mul_right hts
  have := Nat.mul_le_mul_right (2 ^ s) (show t + 1 ≤ 2 ^ (64 - s) from this)
  rw [hD, Nat.mul_comm (2 ^ s)]
  exact this
 rw [Nat.add_mul, Nat.one_mul] at hm
 omega
end Go.Proofs.YtkeomlpecjjhiaaGreatDoor
namespace Go.Proofs.YtkeomlpecjjhiaaGreatDoor
open Go.RowKit
theorem no_over (B z c v : Nat) (h : z + B * c = v) (hv : v < B) : z = v := by
 rcases c with _ | c
 ·rw [Nat.mul_zero] at h; exact h
 ·rw [Nat.mul_add, Nat.mul_one] at h; omega
theorem no_under (B z y v b : Nat) (h : z + y = v + B * b) (hz : z < B) (hle : y ≤ v) : z = v - y := by
 rcases b with _ | b
 ·rw [Nat.mul_zero] at h; omega
 ·rw [Nat.mul_add, Nat.mul_one] at h; omega
set_option maxRecDepth 100000 in
set_option maxHeartbeats 1600000 in
theorem difference_any (n capx capy a b : Nat) (p q : Option Addr) (xs ys : List Nat) (w : World) (hx : Dg w p n xs) (hy : Dg w q n ys) (hn : n ≤ 8796093022208) (ha : a < D) (hb : b < D) (hle : dv ys * b ≤ dv xs * a) :
  Calls Tryz.prog 229 #[.slice p n capx, .slice q n capy, U a, U b] w fun e w' => ∃ v, e = .returned v ∧ OwnD w' w.heap.size v (dv xs * a - dv ys * b) ∧ Ch w.heap.size none1 w w' := by
 obtain ⟨i0, hi, hz0, hz1, hz2⟩ := info_parts Tryz.info52
 have hX0 := dv_lt hx.lt
 rw [hx.len] at hX0
 have hXa : dv xs * a < D ^ (n + 1) := by
  rw [Nat.pow_succ]
  exact Nat.lt_of_le_of_lt (Nat.mul_le_mul_right _ (Nat.le_of_lt hX0)) (Nat.mul_lt_mul_of_pos_left ha (Nat.pow_pos D_pos))
 have HX := Lib.hid hx; clear hx
 have HY := Lib.hid hy; clear hy
 have HXA := Lib.hid hXa; clear hXa hX0
 have HLE := Lib.hid hle; clear hle
 have hnn : ((n : Int) + 1) = ((n + 1 : Nat) : Int) := by omega
 have HNN := Lib.hid hnn; clear hnn
 go_enter Tryz.func229, Tryz.ntmps229
 go_wp2_with (refine wpList_make_blk _ rfl _ _ 132 rfl 125 i0 .u64 0 Tryz.underlying132 hi hz0 hz1 .i64 .i64 _ _ (n + 1) rfl rfl HNN.out HNN.out (by rw [hz2]; omega) (by unfold maxLen; omega) ?_; intro w1 hB hC)
 have hB1 : Blk w1 w.heap.size 125 ([] ++ (List.replicate (n + 1) 0).map U ++ []) := hB.cast (by simp [List.map_replicate])
 refine (addProduct_any (n + 1) n (n + 1) capx w.heap.size 0 a 125 p [] [] (List.replicate (n + 1) 0) xs w1 (Dok.zeros _) (by simp) (by unfold maxLen; omega) (Nat.le_refl _) (Nat.le_succ _) ha hB1 rfl (Dg.ch hC HX.out (fun a ha => ⟨HX.out.lt_size a ha, fun q => q⟩)) (fun a ha e => by have := HX.out.lt_size a ha; omega)).mono ?_
 rintro e w2 ⟨c', zs, rfl, hz, hzl, hzv, hB2, hC2⟩
 have hCa : Ch w.heap.size none1 w w2 := hC.step hC2 (Nat.le_refl _) (fun k hk e => by omega)
 rw [dv_zeros, Nat.zero_add] at hzv
 have hzv1 : dv zs = dv xs * a := no_over _ _ _ _ hzv HXA.out
 clear hB hC hB1 hC2 hzv
 have HZV := Lib.hid hzv1; clear hzv1
 have HZL := Lib.hid hzl; clear hzl
 go_wp2_with fail
 refine (subtractProduct_any n (n + 1) capy w.heap.size 0 b 125 q [] [] zs ys w2 hz HZL.out (by unfold maxLen; omega) (Nat.le_refl _) hb hB2 rfl (Dg.ch hCa HY.out (fun a ha => ⟨HY.out.lt_size a ha, fun q => q⟩)) (fun a ha e => by have := HY.out.lt_size a ha; omega)).mono ?_
 rintro e w3 ⟨bb, z3, rfl, _, hz3, hz3l, hz3v, hB3, hC3⟩
 have hCb : Ch w.heap.size none1 w w3 := hCa.step hC3 (Nat.le_refl _) (fun k hk e => by omega)
 have hz3e : dv z3 = dv xs * a - dv ys * b := by
  have h2 := dv_lt hz3
  rw [hz3l] at h2
  rw [HZV.out] at hz3v
  exact no_under _ _ _ _ _ hz3v h2 HLE.out
 have hB4 : Blk w3 w.heap.size 125 (z3.map U) := hB3.cast (by simp)
 have hd4 : Dg w3 (some ⟨w.heap.size, 0, none⟩) (n + 1) z3 := dg_of_blk (post := []) (hB4.cast (by simp)) hz3 (n + 1) hz3l
 have HZE := Lib.hid hz3e; clear hz3e hz3v hB2 hCa hC3 hB3
 go_wp2_with fail
 refine (dtrim_any _ (n + 1) (n + 1) z3 _ hd4 (Nat.le_refl _) (by unfold maxLen; omega)).mono ?_
 rintro e w4 ⟨rfl, rfl⟩
 go_wp2_with fail
 go_ret
 refine ⟨_, rfl, ?_, hCb⟩
 rw [← HZE.out]
 exact OwnD.of_blk hB4 hz3 hz3l (by unfold maxLen; omega) (Nat.le_refl _)
set_option maxRecDepth 100000 in
set_option maxHeartbeats 1600000 in
theorem leading_any (n capx capy : Nat) (p q : Option Addr) (xs ys : List Nat) (w : World) (hx : Dg w p n xs) (hy : Dg w q n ys) (hn : n ≤ 8796093022208) (hn2 : 2 ≤ n) (cx : tlen xs = n) (hle : dv ys ≤ dv xs) :
  Calls Tryz.prog 221 #[.slice p n capx, .slice q n capy] w fun e w' => ∃ v u P x y : Nat, e = .returned (.tuple #[U v, U u]) ∧ Ch w.heap.size none1 w w' ∧ v < D ∧ u ≤ v ∧ dv xs = v * P + x ∧ dv ys = u * P + y ∧ x < P ∧ y < P := by
 obtain ⟨gx, ox, rfl⟩ := hx.addr (by omega)
 obtain ⟨gy, oy, rfl⟩ := hy.addr (by omega)
 have hxl := hx.len
 have hyl := hy.len
 have htop := top_pos xs n hx.len (by omega) cx
 have c1 := hx.get (n - 1) (by omega)
 have c2 := hx.get (n - 1 - 1) (by omega)
 have d1 := hy.get (n - 1) (by omega)
 have d2 := hy.get (n - 1 - 1) (by omega)
 have b1 : xs[n - 1]'(by omega) < D := hx.lt _ (List.getElem_mem _)
 have b2 : xs[n - 1 - 1]'(by omega) < D := hx.lt _ (List.getElem_mem _)
 have b3 : ys[n - 1]'(by omega) < D := hy.lt _ (List.getElem_mem _)
 have b4 : ys[n - 1 - 1]'(by omega) < D := hy.lt _ (List.getElem_mem _)
 obtain ⟨hs64, hY1, hY2⟩ := lz_facts _ b1 htop
 have htt : ys[n - 1]'(by omega) ≤ xs[n - 1]'(by omega) := by
  rcases Nat.lt_or_ge (xs[n - 1]'(by omega)) (ys[n - 1]'(by omega)) with h | h
  ·have := cmp_top xs ys (n - 1) hx.lt hy.lt (by omega) (by omega) (by omega) (by rw [List.drop_of_length_le (by omega), List.drop_of_length_le (by omega)]) h
   omega
  ·exact h
 have hlz := fun w => lz_any (xs[n - 1]'(by omega)) w b1
 have hY3 : ys[n - 1]'(by omega) * 2 ^ lz (xs[n - 1]'(by omega)) < D := Nat.lt_of_le_of_lt (Nat.mul_le_mul_right _ htt) hY2
 obtain ⟨x, hx1, hx2, hx3, hx4⟩ := lead_bits xs (n - 2) (lz (xs[n - 1]'(by omega))) (xs[n - 1]'(by omega)) (xs[n - 1 - 1]'(by omega)) (by omega) hx.lt (by omega) (by congr 1; omega) (by congr 1) hY2
 obtain ⟨y, hy1, hy2, hy3, hy4⟩ := lead_bits ys (n - 2) (lz (xs[n - 1]'(by omega))) (ys[n - 1]'(by omega)) (ys[n - 1 - 1]'(by omega)) (by omega) hy.lt (by omega) (by congr 1; omega) (by congr 1) hY3
 generalize xs[n - 1]'(by omega) = t at *
 generalize ys[n - 1]'(by omega) = t' at *
 generalize xs[n - 1 - 1]'(by omega) = r at *
 generalize ys[n - 1 - 1]'(by omega) = r' at *
 generalize lz t = s at *
 have hv : t' * 2 ^ s + r' / 2 ^ (64 - s) ≤ t * 2 ^ s + r / 2 ^ (64 - s) := by
  rw [← hx4, ← hy4]; exact Nat.div_le_div_right hle
 have rx : bits .or .u64 (IntKind.u64.wrap ((t : Int) * 2 ^ s)) ((r / 2 ^ (64 - s) : Nat) : Int) = ((t * 2 ^ s + r / 2 ^ (64 - s) : Nat) : Int) := by
  have hp := part_lt r s (by omega) b2
  have hpb := Nat.lt_of_lt_of_le hp (pow_le64 s (by omega))
  have hm := Nat.mod_lt (t * 2 ^ s) D_pos
  rw [shl_mod, u64_or _ _ hm hpb, shl_low t s _ (by omega) hp, Nat.mod_eq_of_lt (show t * 2 ^ s < D from hY2)]
 have ry : bits .or .u64 (IntKind.u64.wrap ((t' : Int) * 2 ^ s)) ((r' / 2 ^ (64 - s) : Nat) : Int) = ((t' * 2 ^ s + r' / 2 ^ (64 - s) : Nat) : Int) := by
  have hp := part_lt r' s (by omega) b4
  have hpb := Nat.lt_of_lt_of_le hp (pow_le64 s (by omega))
  have hm := Nat.mod_lt (t' * 2 ^ s) D_pos
  rw [shl_mod, u64_or _ _ hm hpb, shl_low t' s _ (by omega) hp, Nat.mod_eq_of_lt hY3]
 have sx := shr_cast r (64 - s)
 have sy := shr_cast r' (64 - s)
 have HR := Lib.hid (show ∃ v u P x y : Nat, U (t * 2 ^ s + r / 2 ^ (64 - s)) = U v ∧ U (t' * 2 ^ s + r' / 2 ^ (64 - s)) = U u ∧ v < D ∧ u ≤ v ∧ dv xs = v * P + x ∧ dv ys = u * P + y ∧ x < P ∧ y < P from ⟨_, _, _, x, y, rfl, rfl, hx3, hv, hx2, hy2, hx1, hy1⟩)
 have HLZ := Lib.hid hlz
 clear hlz hx1 hx2 hx3 hx4 hy1 hy2 hy3 hy4 hv hY1 hY2 hY3 htop htt hx hy hle cx
 generalize r / 2 ^ (64 - s) = rs at *
 generalize r' / 2 ^ (64 - s) = rs' at *
 generalize t * 2 ^ s + rs = vv at *
 generalize t' * 2 ^ s + rs' = uu at *
 have hi1 : 0 ≤ (n : Int) - 1 := by omega
 have hi2 : 0 ≤ (n : Int) - 1 - 1 := by omega
 go_enter Tryz.func221, Tryz.ntmps221
 go_wp2_with fail
 refine (HLZ.out _).mono ?_
 rintro e w' ⟨rfl, rfl⟩
 obtain ⟨w, rfl⟩ : ∃ w : World, w = w' := ⟨_, rfl⟩
 go_wp2_with fail
 go_quiet (fail)
 go_wp2_with fail
 go_quiet (fail)
 go_wp2_with fail
 go_ret2
 obtain ⟨v, u, P, x, y, e1, e2, h⟩ := HR.out
 exact ⟨v, u, P, x, y, by rw [← e1, ← e2]; rfl, ((Ch.refl w.heap.size none1 w).drewN _).drewN _, h⟩
end Go.Proofs.YtkeomlpecjjhiaaGreatDoor
