/- Package ratio's functions of natural numbers: common, quotient, product, difference, signed. -/
import Derived.Test.YtnblmmhpndnjcaaGreatDoorQa
import Derived.Laws.Rows
namespace Go.Proofs.YtnblmmhpndnjcaaGreatDoor
open Go.RowKit
theorem beq_no {a b : List UInt8} (h : a ≠ b) : (a == b) = false := by rw [beq_eq_false_iff_ne]; exact h
set_option maxRecDepth 100000 in
set_option maxHeartbeats 1600000 in
theorem C_common {a b l : List UInt8} {n : Nat} (hl : nb n = l) (ha : a.length ≤ 10000) (hb : b.length ≤ 10000) (hn : Nat.gcd (bv a) (bv b) = n) : Ans 113 #[S a, S b] (S l) := fun w => by
  have H1 := Lib.hid (C_gcd hl ha hb hn)
  by_cases h1 : a = [1]
  · subst h1
    have hr : l = [1] := by rw [← hl, ← hn, show bv [1] = 1 from rfl, Nat.gcd_one_left, nb_one]
    subst hr
    clear H1 hl hn
    go_enter Tryz.func113, Tryz.ntmps113
    go_wp2_with fail
    go_ret
    exact ⟨rfl, Ch.refl _ _ _⟩
  · have e1 := beq_no h1
    by_cases h2 : b = [1]
    · subst h2
      have hr : l = [1] := by rw [← hl, ← hn, show bv [1] = 1 from rfl, Nat.gcd_one_right, nb_one]
      subst hr
      clear H1 hl hn h1
      go_enter Tryz.func113, Tryz.ntmps113
      go_wp2_with fail
      go_ret
      exact ⟨rfl, Ch.refl _ _ _⟩
    · have e2 := beq_no h2
      clear h1 h2 hl hn
      go_enter Tryz.func113, Tryz.ntmps113
      go_wp2_with fail
      refine (H1.out _).mono ?_
      rintro e w' ⟨rfl, hC⟩
      go_wp2_with fail
      go_ret
      exact ⟨rfl, hC⟩
set_option maxRecDepth 100000 in
set_option maxHeartbeats 1600000 in
theorem C_quotient {a g l : List UInt8} {n : Nat} (hl : nb n = l) (ha : a.length ≤ 10000) (hg : g.length ≤ 10000) (hra : Rt a) (h0 : 0 < bv g) (hn : bv a / bv g = n) : Ans 99 #[S a, S g] (S l) := fun w => by
  obtain ⟨m, hm⟩ : ∃ m, nb (bv a % bv g) = m := ⟨_, rfl⟩
  have H1 := Lib.hid (C_quo hl hm ha hg h0 hn rfl)
  by_cases h1 : g = [1]
  · subst h1
    have hr : l = a := by rw [← hl, ← hn, show bv [1] = 1 from rfl, Nat.div_one, nb_of_rt hra]
    subst hr
    clear H1 hl hn hm
    go_enter Tryz.func99, Tryz.ntmps99
    go_wp2_with fail
    go_ret
    exact ⟨rfl, Ch.refl _ _ _⟩
  · have e1 := beq_no h1
    clear h1 hl hn hm
    go_enter Tryz.func99, Tryz.ntmps99
    go_wp2_with fail
    refine (H1.out _).mono ?_
    rintro e w' ⟨rfl, hC⟩
    go_wp2_with fail
    go_ret
    exact ⟨rfl, hC⟩
set_option maxRecDepth 100000 in
set_option maxHeartbeats 1600000 in
theorem C_product {a b l : List UInt8} {n : Nat} (hl : nb n = l) (ha : a.length ≤ 10000) (hb : b.length ≤ 10000) (hra : Rt a) (hrb : Rt b) (hn : bv a * bv b = n) : Ans 98 #[S a, S b] (S l) := fun w => by
  have H1 := Lib.hid (C_mul hl ha hb hn)
  by_cases h1 : a = [1]
  · subst h1
    have hr : l = b := by rw [← hl, ← hn, show bv [1] = 1 from rfl, Nat.one_mul, nb_of_rt hrb]
    subst hr
    clear H1 hl hn
    go_enter Tryz.func98, Tryz.ntmps98
    go_wp2_with fail
    go_ret
    exact ⟨rfl, Ch.refl _ _ _⟩
  · have e1 := beq_no h1
    by_cases h2 : b = [1]
    · subst h2
      have hr : l = a := by rw [← hl, ← hn, show bv [1] = 1 from rfl, Nat.mul_one, nb_of_rt hra]
      subst hr
      clear H1 hl hn h1
      go_enter Tryz.func98, Tryz.ntmps98
      go_wp2_with fail
      go_ret
      exact ⟨rfl, Ch.refl _ _ _⟩
    · have e2 := beq_no h2
      clear h1 h2 hl hn
      go_enter Tryz.func98, Tryz.ntmps98
      go_wp2_with fail
      refine (H1.out _).mono ?_
      rintro e w' ⟨rfl, hC⟩
      go_wp2_with fail
      go_ret
      exact ⟨rfl, hC⟩
/-- The sum of two numbers with signs, as a sign and a size. -/
def dsum (s : Bool) (m : Nat) (t : Bool) (n : Nat) : Bool × Nat := if s = t then (s, m + n) else if n ≤ m then (s, m - n) else (t, n - m)
theorem dsum_val (s : Bool) (m : Nat) (t : Bool) (n : Nat) : sv (dsum s m t n).1 (dsum s m t n).2 = sv s m + sv t n := by
  unfold dsum sv
  cases s <;> cases t <;> simp <;> first | omega | (split <;> simp <;> omega)
theorem dsum_le (s : Bool) (m : Nat) (t : Bool) (n : Nat) : (dsum s m t n).2 ≤ m + n := by
  unfold dsum
  split
  · exact Nat.le_refl _
  · split <;> simp <;> omega
set_option maxRecDepth 100000 in
set_option maxHeartbeats 1600000 in
theorem C_diff {s t r : Bool} {a b l : List UInt8} {n : Nat} (hl : nb n = l) (ha : a.length ≤ 10000) (hb : b.length ≤ 10000) (hd : dsum s (bv a) t (bv b) = (r, n)) : Ans 151 #[.bool s, S a, .bool t, S b] (.tuple #[.bool r, S l]) := fun w => by
  unfold dsum at hd
  by_cases hst : s = t
  · subst hst
    rw [if_pos rfl] at hd
    simp only [Prod.mk.injEq] at hd
    obtain ⟨rfl, hn⟩ := hd
    have H1 := Lib.hid (C_add hl ha hb hn)
    clear hl hn
    have hss : (s == s) = true := by simp
    go_enter Tryz.func151, Tryz.ntmps151
    go_wp2_with fail
    refine (H1.out _).mono ?_
    rintro e w' ⟨rfl, hC⟩
    go_wp2_with fail
    go_ret2
    exact ⟨rfl, hC⟩
  · rw [if_neg hst] at hd
    have hss : (s == t) = false := by simpa using hst
    by_cases hle : bv b ≤ bv a
    · rw [if_pos hle] at hd
      simp only [Prod.mk.injEq] at hd
      obtain ⟨rfl, hn⟩ := hd
      have H1 := Lib.hid (C_sub hl ha hb (by omega))
      clear hl hn hle hst
      go_enter Tryz.func151, Tryz.ntmps151
      go_wp2_with fail
      refine (H1.out _).mono ?_
      rintro e w' ⟨rfl, hC⟩
      go_wp2_with fail
      go_ret2
      exact ⟨rfl, hC⟩
    · rw [if_neg hle] at hd
      simp only [Prod.mk.injEq] at hd
      obtain ⟨rfl, hn⟩ := hd
      have H1 := Lib.hid (C_sub_no ha hb (show bv a < bv b by omega))
      have H2 := Lib.hid (C_sub hl hb ha (by omega))
      clear hl hn hle hst
      go_enter Tryz.func151, Tryz.ntmps151
      go_wp2_with fail
      refine (H1.out _).mono ?_
      rintro e w' ⟨rfl, hC⟩
      go_wp2_with fail
      refine (H2.out _).mono ?_
      rintro e w2 ⟨rfl, hC2⟩
      go_wp2_with fail
      go_ret2
      exact ⟨rfl, hC.step0 hC2 (Nat.le_refl _)⟩
set_option maxRecDepth 100000 in
set_option maxHeartbeats 1600000 in
theorem C_signed (s : Bool) (n d : List UInt8) : Ans 140 #[.bool s, S n, S d] (Rv (s && !n.isEmpty) n d) := fun w => by
  go_enter Tryz.func140, Tryz.ntmps140
  cases s
  · go_wp2_with fail
    refine bodyPost_ret (results_cell_row (P := Tryz.prog) rfl _ _ w.heap.size 26 _ (0, 0) _ rfl (heap_alloc_new w _) Tryz.underlying26 rfl (by kernel_rfl)) rfl ?_
    exact ⟨rfl, (Ch.refl w.heap.size none1 w).alloc (Nat.le_refl _) _⟩
  · cases n with
    | nil =>
      go_wp2_with fail
      refine bodyPost_ret (results_cell_row (P := Tryz.prog) rfl _ _ w.heap.size 26 _ (0, 0) _ rfl (heap_alloc_new w _) Tryz.underlying26 rfl (by kernel_rfl)) rfl ?_
      exact ⟨rfl, (Ch.refl w.heap.size none1 w).alloc (Nat.le_refl _) _⟩
    | cons b m =>
      go_wp2_with fail
      refine bodyPost_ret (results_cell_row (P := Tryz.prog) rfl _ _ w.heap.size 26 _ (0, 0) _ rfl (heap_alloc_new w _) Tryz.underlying26 rfl (by kernel_rfl)) rfl ?_
      exact ⟨rfl, (Ch.refl w.heap.size none1 w).alloc (Nat.le_refl _) _⟩
end Go.Proofs.YtnblmmhpndnjcaaGreatDoor
