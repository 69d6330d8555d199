/- Contract of math/bits.Div64. -/
import Derived.Test.YtcghnkdfhiancaaDoorNd
import Derived.Test.YtcghnkdfhiancaaDoorNk
import Derived.Deep.DeepCutAuto
import Derived.Deep.CutBlock
namespace Go.Proofs.YtcghnkdfhiancaaDoor
/-- The base of halves. -/
theorem h_start (Y un d : Nat) (hY : 9223372036854775808 ≤ Y) (hY2 : Y < 18446744073709551616) (hun : un < Y) (hd : d < 4294967296) :
    (un * 4294967296 + d) / Y ≤ un / (Y / 4294967296) ∧ un / (Y / 4294967296) ≤ 4294967297 ∧ (un * 4294967296 + d) / Y < 4294967296 ∧ 2147483648 ≤ Y / 4294967296 ∧ Y / 4294967296 < 4294967296 := by
  have h1 : 2147483648 ≤ Y / 4294967296 := by omega
  have hm := Nat.div_add_mod Y 4294967296
  have hml := Nat.mod_lt Y (show 4294967296 > 0 by decide)
  generalize Y / 4294967296 = a at *
  generalize Y % 4294967296 = b at *
  refine ⟨?_, ?_, ?_, h1, by omega⟩
  · rw [Nat.le_div_iff_mul_le (by omega)]
    have q1 := Nat.div_mul_le_self (un * 4294967296 + d) Y
    have q2 : (un * 4294967296 + d) / Y * Y = (un * 4294967296 + d) / Y * a * 4294967296 + (un * 4294967296 + d) / Y * b := by
      rw [← hm, Nat.mul_add, Nat.mul_comm 4294967296 a, Nat.mul_assoc]
    generalize (un * 4294967296 + d) / Y = Q at *
    generalize Q * a = p at *
    generalize Q * b = p2 at *
    omega
  · rw [← Nat.lt_succ_iff, Nat.div_lt_iff_lt_mul (by omega)]
    have : (4294967297 + 1) * a = 4294967296 * a + 2 * a := by omega
    show un < (4294967297 + 1) * a
    omega
  · rw [Nat.div_lt_iff_lt_mul (by omega)]
    omega
theorem h_stop (Y un d q r : Nat) (hY : 0 < Y) (hr : q * (Y / 4294967296) + r = un) (hQ : (un * 4294967296 + d) / Y ≤ q) (h : q * (Y % 4294967296) ≤ 4294967296 * r + d) : (un * 4294967296 + d) / Y = q := by
  refine Nat.le_antisymm hQ ?_
  rw [Nat.le_div_iff_mul_le hY]
  have hm := Nat.div_add_mod Y 4294967296
  generalize Y / 4294967296 = a at *
  generalize Y % 4294967296 = b at *
  have q2 : q * Y = q * a * 4294967296 + q * b := by rw [← hm, Nat.mul_add, Nat.mul_comm 4294967296 a, Nat.mul_assoc]
  generalize q * a = p at *
  generalize q * b = p2 at *
  omega
theorem h_go (Y un d q r : Nat) (hY : 0 < Y) (hr : q * (Y / 4294967296) + r = un) (hQB : (un * 4294967296 + d) / Y < 4294967296) (h : 4294967296 ≤ q ∨ 4294967296 * r + d < q * (Y % 4294967296)) : (un * 4294967296 + d) / Y < q := by
  rcases h with h | h
  · omega
  · rw [Nat.div_lt_iff_lt_mul hY]
    have hm := Nat.div_add_mod Y 4294967296
    generalize Y / 4294967296 = a at *
    generalize Y % 4294967296 = b at *
    have q2 : q * Y = q * a * 4294967296 + q * b := by rw [← hm, Nat.mul_add, Nat.mul_comm 4294967296 a, Nat.mul_assoc]
    generalize q * a = p at *
    generalize q * b = p2 at *
    omega
theorem h_break (Y un d q r : Nat) (hY : 0 < Y) (hr : q * (Y / 4294967296) + r = un) (hq : q ≤ 4294967296) (hQ : (un * 4294967296 + d) / Y ≤ q) (h : 4294967296 ≤ r) : (un * 4294967296 + d) / Y = q := by
  refine h_stop Y un d q r hY hr hQ ?_
  have hml := Nat.mod_lt Y (show 4294967296 > 0 by decide)
  have h1 := Nat.mul_le_mul hq (show Y % 4294967296 ≤ 4294967295 by omega)
  omega
theorem h_dec (a q r un : Nat) (hr : q * a + r = un) (hq : 1 ≤ q) : (q - 1) * a + (r + a) = un := by
  obtain ⟨p, rfl⟩ : ∃ p, q = p + 1 := ⟨q - 1, by omega⟩
  rw [Nat.add_sub_cancel]
  rw [Nat.add_mul] at hr
  omega
/-- The two halves of the quotient, and the rest. -/
theorem h_all (B E N y s Y un l1 l0 Q1 R1 Q0 R0 : Nat) (hB : B * B = E) (hY : Y = y * 2 ^ s) (hy : 0 < y) (hU : un * E + (B * l1 + l0) = N * 2 ^ s)
    (e1 : Y * Q1 + R1 = un * B + l1) (e0 : Y * Q0 + R0 = R1 * B + l0) (m0 : R0 < Y) : Q1 * B + Q0 = N / y ∧ R0 / 2 ^ s = N % y := by
  have hYp : 0 < Y := by rw [hY]; exact Nat.mul_pos hy (Nat.two_pow_pos s)
  have key : N * 2 ^ s = Y * (Q1 * B + Q0) + R0 := by
    rw [← hU, ← hB]
    have h1 : B * (Y * Q1 + R1) = B * (un * B + l1) := by rw [e1]
    grind
  have d1 : N * 2 ^ s / Y = Q1 * B + Q0 := by
    rw [key, Nat.mul_add_div hYp, Nat.div_eq_of_lt m0, Nat.add_zero]
  have d2 : N * 2 ^ s % Y = R0 := by
    rw [key, Nat.mul_add_mod, Nat.mod_eq_of_lt m0]
  constructor
  · rw [← d1, hY, Nat.mul_div_mul_right _ _ (Nat.two_pow_pos s)]
  · rw [← d2, hY, Nat.mul_mod_mul_right, Nat.mul_div_cancel _ (Nat.two_pow_pos s)]
/-- One half of the quotient: what its loop needs. -/
theorem h_pack (Y un d a b : Nat) (hY : 9223372036854775808 ≤ Y) (hY2 : Y < 18446744073709551616) (hun : un < Y) (hd : d < 4294967296) (ha : Y / 4294967296 = a) (hb : Y % 4294967296 = b) :
    ∃ Q R q0 r0, Y * Q + R = un * 4294967296 + d ∧ R < Y ∧ Q < 4294967296 ∧ Q ≤ q0 ∧ q0 ≤ 4294967297 ∧ un / a = q0 ∧ q0 * a + r0 = un ∧ r0 < a ∧
      (∀ q r, q * a + r = un → Q ≤ q → q * b ≤ 4294967296 * r + d → Q = q) ∧
      (∀ q r, q * a + r = un → (4294967296 ≤ q ∨ 4294967296 * r + d < q * b) → Q < q) ∧
      (∀ q r, q * a + r = un → q ≤ 4294967296 → Q ≤ q → 4294967296 ≤ r → Q = q) := by
  subst ha hb
  obtain ⟨h1, h2, h3, h4, h5⟩ := h_start Y un d hY hY2 hun hd
  refine ⟨(un * 4294967296 + d) / Y, (un * 4294967296 + d) % Y, un / (Y / 4294967296), un % (Y / 4294967296), Nat.div_add_mod _ _, Nat.mod_lt _ (by omega), h3, h1, h2, rfl, ?_, Nat.mod_lt _ (by omega), ?_, ?_, ?_⟩
  · rw [Nat.mul_comm]; exact Nat.div_add_mod _ _
  · exact fun q r hr hQ h => h_stop Y un d q r (by omega) hr hQ h
  · exact fun q r hr h => h_go Y un d q r (by omega) hr h3 h
  · exact fun q r hr hq hQ h => h_break Y un d q r (by omega) hr hq hQ h
/-- A word shifted to the left, in two words. -/
theorem shl_split (lo s : Nat) (hs : s ≤ 64) : lo / 2 ^ (64 - s) * D + lo * 2 ^ s % D = lo * 2 ^ s := by
  have hD : D = 2 ^ (64 - s) * 2 ^ s := by rw [← Nat.pow_add, show 64 - s + s = 64 by omega]; rfl
  have h1 : lo * 2 ^ s / D = lo / 2 ^ (64 - s) := by rw [hD, Nat.mul_div_mul_right _ _ (Nat.two_pow_pos s)]
  have h2 := Nat.div_add_mod (lo * 2 ^ s) D
  rw [h1, Nat.mul_comm] at h2
  exact h2
theorem un_eq (hi lo s : Nat) (hs : s ≤ 64) : (hi * 2 ^ s + lo / 2 ^ (64 - s)) * D + lo * 2 ^ s % D = (hi * D + lo) * 2 ^ s := by
  have h := shl_split lo s hs
  rw [Nat.add_mul, Nat.add_mul, Nat.add_assoc, h, Nat.mul_assoc, Nat.mul_assoc, Nat.mul_comm (2 ^ s) D]
theorem un_lt (hi lo y s un L : Nat) (h : hi < y) (hlo : lo < D) (hU : un * D + L = (hi * D + lo) * 2 ^ s) : un < y * 2 ^ s := by
  have h1 : hi * D + lo < y * D := by
    have := Nat.mul_le_mul_right D (show hi + 1 ≤ y from h)
    rw [Nat.add_mul] at this
    omega
  have h2 := Nat.mul_lt_mul_of_pos_right h1 (Nat.two_pow_pos s)
  have h3 : un * D < y * 2 ^ s * D := by
    rw [Nat.mul_assoc y, Nat.mul_comm (2 ^ s) D, ← Nat.mul_assoc]
    omega
  exact Nat.lt_of_mul_lt_mul_right h3
theorem part_lt (lo s : Nat) (hs : s ≤ 64) (hlo : lo < D) : lo / 2 ^ (64 - s) < 2 ^ s := by
  rw [Nat.div_lt_iff_lt_mul (Nat.two_pow_pos _), ← Nat.pow_add, show s + (64 - s) = 64 by omega]
  exact hlo
theorem norm_bounds (y s k : Nat) (hk : k + s = 64) (h1 : y < 2 ^ k) (h2 : 2 ^ (k - 1) ≤ y) (hk1 : 1 ≤ k) : 9223372036854775808 ≤ y * 2 ^ s ∧ y * 2 ^ s < 18446744073709551616 := by
  constructor
  · have := Nat.mul_le_mul_right (2 ^ s) h2
    rw [← Nat.pow_add, show k - 1 + s = 63 by omega] at this
    exact this
  · have := Nat.mul_lt_mul_of_pos_right h1 (Nat.two_pow_pos s)
    rw [← Nat.pow_add, show k + s = 64 by omega] at this
    exact this
end Go.Proofs.YtcghnkdfhiancaaDoor
namespace Go.Proofs.YtcghnkdfhiancaaDoor
open Go.RowKit
theorem nat_ne_bool {c : Nat} (h : c ≠ 0) : (((c : Nat) : Int) == 0) = false := by rw [beq_eq_false_iff_ne]; omega
theorem u64_div (x y : Nat) (hx : x < 18446744073709551616) : IntKind.u64.wrap ((x : Int) / (y : Int)) = ((x / y : Nat) : Int) := by
  have := Nat.div_le_self x y
  rw [show ((x : Int) / (y : Int)) = ((x / y : Nat) : Int) from (Int.natCast_ediv x y).symm]
  exact u64_wrap _ (by omega)
set_option maxRecDepth 100000 in
set_option maxHeartbeats 1600000 in
theorem div64_small (lo y : Nat) (w : World) (hlo : lo < 18446744073709551616) (hy : y < 18446744073709551616) (h0 : 0 < y) :
    Calls Tryd.prog 95 #[.int .u64 0, U lo, U y] w fun e w' => e = .returned (.tuple #[U (lo / y), U (lo % y)]) ∧ ∃ k, w' = w.drewN k := by
  have hb := nat_ne_bool (show y ≠ 0 by omega)
  have hd := u64_div lo y hlo
  have hm : ((lo : Int) % (y : Int)) = ((lo % y : Nat) : Int) := (Int.natCast_emod lo y).symm
  go_enter Tryd.func95, Tryd.ntmps95
  go_wp2_with fail
  go_quiet (fail)
  go_wp2_with fail
  go_ret2
  refine ⟨?_, _, rfl⟩
  show Ending.returned (.tuple #[.int .u64 _, .int .u64 ((lo : Int) % (y : Int))]) = _
  rw [hm, show ((lo : Int) / (y : Int)) = ((lo / y : Nat) : Int) from (Int.natCast_ediv lo y).symm]
theorem wrap_u (n : Int) : IntKind.u64.wrap n = n % 18446744073709551616 := by simp [IntKind.wrap, IntKind.bits, IntKind.signed]
theorem u64_mask32 (x : Nat) (h : x < 18446744073709551616) : bits .and .u64 (x : Int) 4294967295 = ((x % 4294967296 : Nat) : Int) := by
  have := u64_and x 4294967295 h (by omega)
  rw [show (((4294967295 : Nat)) : Int) = 4294967295 from rfl] at this
  rw [this, show (4294967295 : Nat) = 2 ^ 32 - 1 from rfl, Nat.and_two_pow_sub_one_eq_mod]
theorem shl_cast (x s : Nat) (h : x * 2 ^ s < 18446744073709551616) : IntKind.u64.wrap ((x : Int) * 2 ^ s) = ((x * 2 ^ s : Nat) : Int) := by
  rw [show (x : Int) * 2 ^ s = ((x * 2 ^ s : Nat) : Int) from by simp]
  exact u64_wrap _ h
theorem shl_mod (x s : Nat) : IntKind.u64.wrap ((x : Int) * 2 ^ s) = ((x * 2 ^ s % D : Nat) : Int) := by
  rw [show (x : Int) * 2 ^ s = ((x * 2 ^ s : Nat) : Int) from by simp, wrap_u]
  exact (Int.natCast_emod _ _).symm
theorem shr_cast (x s : Nat) : (x : Int) / 2 ^ s = ((x / 2 ^ s : Nat) : Int) := by simp
/-- What wraps twice and is a word is that word. -/
theorem wrap_rest (un Q Y l R : Nat) (h : Y * Q + R = un * 4294967296 + l) (hR : R < 18446744073709551616) :
    IntKind.u64.wrap (IntKind.u64.wrap (IntKind.u64.wrap ((un : Int) * 4294967296) + (l : Int)) - IntKind.u64.wrap ((Q : Int) * (Y : Int))) = (R : Int) := by
  have h1 : ((Q : Int) * (Y : Int)) = ((Y * Q : Nat) : Int) := by rw [Nat.mul_comm]; simp
  rw [h1]
  generalize Y * Q = p at *
  simp only [wrap_u]
  omega
theorem lz_facts (y : Nat) (hy : y < 18446744073709551616) (h0 : 0 < y) : lz y < 64 ∧ 9223372036854775808 ≤ y * 2 ^ lz y ∧ y * 2 ^ lz y < 18446744073709551616 := by
  have h64 := bitLen_64 y hy
  have k0 := bitLen_iff y 0 hy (by omega)
  have hpos : 1 ≤ Lib.bitLen y := by
    rcases Nat.eq_zero_or_pos (Lib.bitLen y) with q | q
    · have := k0.1 (by omega); simp at this; omega
    · exact q
  have k1 := bitLen_iff y (Lib.bitLen y) hy h64
  have k2 := bitLen_iff y (Lib.bitLen y - 1) hy (by omega)
  unfold lz
  refine ⟨by omega, norm_bounds y _ (Lib.bitLen y) (by omega) (k1.1 (Nat.le_refl _)) (by omega) hpos⟩
set_option maxRecDepth 100000 in
set_option maxHeartbeats 3200000 in
theorem div64_core (hi lo y s Y un L a b l1 l0 Q1 R1 q1 r1 Q0 R0 q0 r0 : Nat) (w : World) (hhi : hi < y) (_hlo : lo < 18446744073709551616) (hy : y < 18446744073709551616) (h0 : 0 < hi)
    (hs : lz y = s) (hs64 : s < 64) (rY : IntKind.u64.wrap ((y : Int) * 2 ^ s) = (Y : Int)) (rL : IntKind.u64.wrap ((lo : Int) * 2 ^ s) = (L : Int))
    (rU : bits .or .u64 (IntKind.u64.wrap ((hi : Int) * 2 ^ s)) ((lo : Int) / 2 ^ (64 - s)) = (un : Int))
    (hY1 : 9223372036854775808 ≤ Y) (hY2 : Y < 18446744073709551616) (_hL : L < 18446744073709551616) (hun : un < Y)
    (ra : (Y : Int) / 4294967296 = (a : Int)) (rb : bits .and .u64 (Y : Int) 4294967295 = (b : Int)) (rl1 : (L : Int) / 4294967296 = (l1 : Int)) (rl0 : bits .and .u64 (L : Int) 4294967295 = (l0 : Int))
    (ha : 2147483648 ≤ a) (ha2 : a < 4294967296) (hb : b < 4294967296) (hl1 : l1 < 4294967296) (hl0 : l0 < 4294967296)
    (rq1 : IntKind.u64.wrap ((un : Int) / (a : Int)) = (q1 : Int)) (hq1 : q1 * a + r1 = un) (hr1 : r1 < a) (hqb1 : q1 ≤ 4294967297) (hQ1 : Q1 ≤ q1) (hQ1b : Q1 < 4294967296)
    (sp1 : ∀ q r, q * a + r = un → Q1 ≤ q → q * b ≤ 4294967296 * r + l1 → Q1 = q) (sg1 : ∀ q r, q * a + r = un → (4294967296 ≤ q ∨ 4294967296 * r + l1 < q * b) → Q1 < q) (sb1 : ∀ q r, q * a + r = un → q ≤ 4294967296 → Q1 ≤ q → 4294967296 ≤ r → Q1 = q)
    (w1 : IntKind.u64.wrap (IntKind.u64.wrap (IntKind.u64.wrap ((un : Int) * 4294967296) + (l1 : Int)) - IntKind.u64.wrap ((Q1 : Int) * (Y : Int))) = (R1 : Int))
    (rq0 : IntKind.u64.wrap ((R1 : Int) / (a : Int)) = (q0 : Int)) (hq0 : q0 * a + r0 = R1) (hr0 : r0 < a) (hqb0 : q0 ≤ 4294967297) (hQ0 : Q0 ≤ q0) (hQ0b : Q0 < 4294967296) (hR1 : R1 < Y)
    (sp0 : ∀ q r, q * a + r = R1 → Q0 ≤ q → q * b ≤ 4294967296 * r + l0 → Q0 = q) (sg0 : ∀ q r, q * a + r = R1 → (4294967296 ≤ q ∨ 4294967296 * r + l0 < q * b) → Q0 < q) (sb0 : ∀ q r, q * a + r = R1 → q ≤ 4294967296 → Q0 ≤ q → 4294967296 ≤ r → Q0 = q)
    (w0 : IntKind.u64.wrap (IntKind.u64.wrap (IntKind.u64.wrap ((R1 : Int) * 4294967296) + (l0 : Int)) - IntKind.u64.wrap ((Q0 : Int) * (Y : Int))) = (R0 : Int)) (RR : Nat) (rsh : (R0 : Int) / 2 ^ s = (RR : Int)) :
    Calls Tryd.prog 95 #[U hi, U lo, U y] w fun e w' => e = .returned (.tuple #[U (Q1 * 4294967296 + Q0), U RR]) ∧ w' = w := by
  have hb0 := nat_ne_bool (show y ≠ 0 by omega)
  have hb2 := nat_ne_bool (show hi ≠ 0 by omega)
  have hl := fun w => lz_any y w hy
  rw [hs] at hl
  have HL := Lib.hid hl; clear hl hs
  have HQ1 := Lib.hid hq1
  have HQ0 := Lib.hid hq0
  have qa1 : (q1 : Int) * (a : Int) ≤ (un : Int) := by rw [← Int.natCast_mul]; omega
  have qa1' : 0 ≤ (q1 : Int) * (a : Int) := by rw [← Int.natCast_mul]; omega
  have qr1 : (un : Int) - (q1 : Int) * (a : Int) = (r1 : Int) := by rw [← Int.natCast_mul]; omega
  have qa0 : (q0 : Int) * (a : Int) ≤ (R1 : Int) := by rw [← Int.natCast_mul]; omega
  have qa0' : 0 ≤ (q0 : Int) * (a : Int) := by rw [← Int.natCast_mul]; omega
  have qr0 : (R1 : Int) - (q0 : Int) * (a : Int) = (r0 : Int) := by rw [← Int.natCast_mul]; omega
  clear hq1 hq0
  have SP1 := Lib.hid sp1; clear sp1
  have SG1 := Lib.hid sg1; clear sg1
  have SB1 := Lib.hid sb1; clear sb1
  have SP0 := Lib.hid sp0; clear sp0
  have SG0 := Lib.hid sg0; clear sg0
  have SB0 := Lib.hid sb0; clear sb0
  go_enter Tryd.func95, Tryd.ntmps95
  go_wp2_with fail
  refine (HL.out _).mono ?_
  rintro e w' ⟨rfl, rfl⟩
  obtain ⟨w, rfl⟩ : ∃ w : World, w = w' := ⟨_, rfl⟩
  go_upto_block 0 with fail
  go_cut [15] (fun v wx => v = U Q1 ∧ wx = w)
  case first =>
    clear w1 w0 ra rb rl1 rl0 rY rL rU rsh rq1 rq0 qr1 qr0 qa1 qa1' qa0 qa0'
    go_wp2_with fail
    go_loop [15, 16] (fun qv rv => ∃ q r : Nat, qv = U q ∧ rv = U r ∧ q * a + r = un ∧ Q1 ≤ q ∧ q ≤ 4294967297 ∧ r < 4294967296) (fun qv _ => (intOf qv).toNat)
    case atStart => exact ⟨q1, r1, rfl, rfl, HQ1.out, hQ1, hqb1, by omega⟩
    case round =>
      obtain ⟨q, r, rfl, rfl, hqr, hQq, hqB, hrB⟩ := hrel
      have HQR := Lib.hid hqr; clear hqr
      by_cases hc : 4294967296 ≤ q ∨ 4294967296 * r + l1 < q * b
      · have hlt := SG1.out q r HQR.out hc
        have hd := h_dec a q r un HQR.out (by omega)
        have HD := Lib.hid hd; clear hd
        have eq1 : ((q : Int) - 1) = ((q - 1 : Nat) : Int) := by omega
        have er1 : ((r : Int) + (a : Int)) = ((r + a : Nat) : Int) := by omega
        have EQ := Lib.hid eq1; clear eq1
        have ER := Lib.hid er1; clear er1
        have hbk : 4294967296 ≤ r + a → Q1 = q - 1 := fun h => SB1.out (q - 1) (r + a) HD.out (by omega) (by omega) h
        have HBK := Lib.hid hbk; clear hbk
        by_cases hqq : 4294967296 ≤ q
        · have hqi : 4294967296 ≤ (q : Int) := by omega
          have hqd : decide ((q : Int) < 4294967296) = false := decide_eq_false (by omega)
          have hqe : decide (4294967296 ≤ (q : Int)) = true := decide_eq_true (by omega)
          have hqn : ¬ (q : Int) < 4294967296 := by omega
          clear hc
          by_cases hra : 4294967296 ≤ r + a
          · have hri : 4294967296 ≤ (r : Int) + (a : Int) := by omega
            have hrd : decide (4294967296 ≤ (r : Int) + (a : Int)) = true := decide_eq_true hri
            go_wp2_with fail
            go_meet
            case rel => exact ⟨by rw [EQ.out, HBK.out hra], rfl⟩
          · have hri : (r : Int) + (a : Int) < 4294967296 := by omega
            have hrn : ¬ 4294967296 ≤ (r : Int) + (a : Int) := by omega
            have hrd : decide (4294967296 ≤ (r : Int) + (a : Int)) = false := decide_eq_false hrn
            go_wp2_with fail
            go_round
            case rel => exact ⟨q - 1, r + a, by rw [EQ.out], by rw [ER.out], HD.out, by omega, by omega, by omega⟩
            case measure => simp [intOf]; omega
        · have hqi : (q : Int) < 4294967296 := by omega
          have hqd : decide ((q : Int) < 4294967296) = true := decide_eq_true (by omega)
          have hqe : decide (4294967296 ≤ (q : Int)) = false := decide_eq_false (by omega)
          have hc2 : 4294967296 * r + l1 < q * b := by omega
          have hqb2 : q * b ≤ 4294967296 * 4294967295 := Nat.mul_le_mul (by omega) (by omega)
          have pz : 4294967296 * (r : Int) + (l1 : Int) < (q : Int) * (b : Int) := by rw [← Int.natCast_mul]; omega
          have pb : (q : Int) * (b : Int) ≤ 18446744069414584320 := by rw [← Int.natCast_mul]; omega
          have pd : decide (4294967296 * (r : Int) + (l1 : Int) < (q : Int) * (b : Int)) = true := decide_eq_true pz
          clear hc hc2 hqb2
          by_cases hra : 4294967296 ≤ r + a
          · have hri : 4294967296 ≤ (r : Int) + (a : Int) := by omega
            have hrd : decide (4294967296 ≤ (r : Int) + (a : Int)) = true := decide_eq_true hri
            go_wp2_with fail
            go_meet
            case rel => exact ⟨by rw [EQ.out, HBK.out hra], rfl⟩
          · have hri : (r : Int) + (a : Int) < 4294967296 := by omega
            have hrn : ¬ 4294967296 ≤ (r : Int) + (a : Int) := by omega
            have hrd : decide (4294967296 ≤ (r : Int) + (a : Int)) = false := decide_eq_false hrn
            go_wp2_with fail
            go_round
            case rel => exact ⟨q - 1, r + a, by rw [EQ.out], by rw [ER.out], HD.out, by omega, by omega, by omega⟩
            case measure => simp [intOf]; omega
      · have hqq : q < 4294967296 := by omega
        have hqi : (q : Int) < 4294967296 := by omega
        have hqd : decide ((q : Int) < 4294967296) = true := decide_eq_true (by omega)
        have hqe : decide (4294967296 ≤ (q : Int)) = false := decide_eq_false (by omega)
        have hc2 : q * b ≤ 4294967296 * r + l1 := by omega
        have hqb2 : q * b ≤ 4294967296 * 4294967295 := Nat.mul_le_mul (by omega) (by omega)
        have pz : (q : Int) * (b : Int) ≤ 4294967296 * (r : Int) + (l1 : Int) := by rw [← Int.natCast_mul]; omega
        have pb : 0 ≤ (q : Int) * (b : Int) := by rw [← Int.natCast_mul]; omega
        have pb2 : (q : Int) * (b : Int) ≤ 18446744069414584320 := by rw [← Int.natCast_mul]; omega
        have pd : decide (4294967296 * (r : Int) + (l1 : Int) < (q : Int) * (b : Int)) = false := decide_eq_false (by omega)
        have pn : ¬ (4294967296 * (r : Int) + (l1 : Int) < (q : Int) * (b : Int)) := by omega
        have hst := SP1.out q r HQR.out hQq hc2
        have HST := Lib.hid hst; clear hst hc hc2 hqb2
        go_wp2_with fail
        go_meet
        case rel => exact ⟨by rw [HST.out], rfl⟩
  case rest =>
    obtain ⟨rfl, rfl⟩ := hcut
    obtain ⟨w, rfl⟩ : ∃ w : World, w = wc := ⟨_, rfl⟩
    go_upto_block 2 with fail
    go_cut [18] (fun v wx => v = U Q0 ∧ wx = w)
    case first =>
      clear w1 w0 ra rb rl1 rl0 rY rL rU rsh rq1 rq0 qr1 qr0 qa1 qa1' qa0 qa0'
      go_wp2_with fail
      go_loop [18, 16] (fun qv rv => ∃ q r : Nat, qv = U q ∧ rv = U r ∧ q * a + r = R1 ∧ Q0 ≤ q ∧ q ≤ 4294967297 ∧ r < 4294967296) (fun qv _ => (intOf qv).toNat)
      case atStart => exact ⟨q0, r0, rfl, rfl, HQ0.out, hQ0, hqb0, by omega⟩
      case round =>
        obtain ⟨q, r, rfl, rfl, hqr, hQq, hqB, hrB⟩ := hrel
        have HQR := Lib.hid hqr; clear hqr
        by_cases hc : 4294967296 ≤ q ∨ 4294967296 * r + l0 < q * b
        · have hlt := SG0.out q r HQR.out hc
          have hd := h_dec a q r R1 HQR.out (by omega)
          have HD := Lib.hid hd; clear hd
          have eq1 : ((q : Int) - 1) = ((q - 1 : Nat) : Int) := by omega
          have er1 : ((r : Int) + (a : Int)) = ((r + a : Nat) : Int) := by omega
          have EQ := Lib.hid eq1; clear eq1
          have ER := Lib.hid er1; clear er1
          have hbk : 4294967296 ≤ r + a → Q0 = q - 1 := fun h => SB0.out (q - 1) (r + a) HD.out (by omega) (by omega) h
          have HBK := Lib.hid hbk; clear hbk
          by_cases hqq : 4294967296 ≤ q
          · have hqi : 4294967296 ≤ (q : Int) := by omega
            have hqd : decide ((q : Int) < 4294967296) = false := decide_eq_false (by omega)
            have hqe : decide (4294967296 ≤ (q : Int)) = true := decide_eq_true (by omega)
            have hqn : ¬ (q : Int) < 4294967296 := by omega
            clear hc
            by_cases hra : 4294967296 ≤ r + a
            · have hri : 4294967296 ≤ (r : Int) + (a : Int) := by omega
              have hrd : decide (4294967296 ≤ (r : Int) + (a : Int)) = true := decide_eq_true hri
              go_wp2_with fail
              go_meet
              case rel => exact ⟨by rw [EQ.out, HBK.out hra], rfl⟩
            · have hri : (r : Int) + (a : Int) < 4294967296 := by omega
              have hrn : ¬ 4294967296 ≤ (r : Int) + (a : Int) := by omega
              have hrd : decide (4294967296 ≤ (r : Int) + (a : Int)) = false := decide_eq_false hrn
              go_wp2_with fail
              go_round
              case rel => exact ⟨q - 1, r + a, by rw [EQ.out], by rw [ER.out], HD.out, by omega, by omega, by omega⟩
              case measure => simp [intOf]; omega
          · have hqi : (q : Int) < 4294967296 := by omega
            have hqd : decide ((q : Int) < 4294967296) = true := decide_eq_true (by omega)
            have hqe : decide (4294967296 ≤ (q : Int)) = false := decide_eq_false (by omega)
            have hc2 : 4294967296 * r + l0 < q * b := by omega
            have hqb2 : q * b ≤ 4294967296 * 4294967295 := Nat.mul_le_mul (by omega) (by omega)
            have pz : 4294967296 * (r : Int) + (l0 : Int) < (q : Int) * (b : Int) := by rw [← Int.natCast_mul]; omega
            have pb : (q : Int) * (b : Int) ≤ 18446744069414584320 := by rw [← Int.natCast_mul]; omega
            have pd : decide (4294967296 * (r : Int) + (l0 : Int) < (q : Int) * (b : Int)) = true := decide_eq_true pz
            clear hc hc2 hqb2
            by_cases hra : 4294967296 ≤ r + a
            · have hri : 4294967296 ≤ (r : Int) + (a : Int) := by omega
              have hrd : decide (4294967296 ≤ (r : Int) + (a : Int)) = true := decide_eq_true hri
              go_wp2_with fail
              go_meet
              case rel => exact ⟨by rw [EQ.out, HBK.out hra], rfl⟩
            · have hri : (r : Int) + (a : Int) < 4294967296 := by omega
              have hrn : ¬ 4294967296 ≤ (r : Int) + (a : Int) := by omega
              have hrd : decide (4294967296 ≤ (r : Int) + (a : Int)) = false := decide_eq_false hrn
              go_wp2_with fail
              go_round
              case rel => exact ⟨q - 1, r + a, by rw [EQ.out], by rw [ER.out], HD.out, by omega, by omega, by omega⟩
              case measure => simp [intOf]; omega
        · have hqq : q < 4294967296 := by omega
          have hqi : (q : Int) < 4294967296 := by omega
          have hqd : decide ((q : Int) < 4294967296) = true := decide_eq_true (by omega)
          have hqe : decide (4294967296 ≤ (q : Int)) = false := decide_eq_false (by omega)
          have hc2 : q * b ≤ 4294967296 * r + l0 := by omega
          have hqb2 : q * b ≤ 4294967296 * 4294967295 := Nat.mul_le_mul (by omega) (by omega)
          have pz : (q : Int) * (b : Int) ≤ 4294967296 * (r : Int) + (l0 : Int) := by rw [← Int.natCast_mul]; omega
          have pb : 0 ≤ (q : Int) * (b : Int) := by rw [← Int.natCast_mul]; omega
          have pb2 : (q : Int) * (b : Int) ≤ 18446744069414584320 := by rw [← Int.natCast_mul]; omega
          have pd : decide (4294967296 * (r : Int) + (l0 : Int) < (q : Int) * (b : Int)) = false := decide_eq_false (by omega)
          have pn : ¬ (4294967296 * (r : Int) + (l0 : Int) < (q : Int) * (b : Int)) := by omega
          have hst := SP0.out q r HQR.out hQq hc2
          have HST := Lib.hid hst; clear hst hc hc2 hqb2
          go_wp2_with fail
          go_meet
          case rel => exact ⟨by rw [HST.out], rfl⟩
    case rest =>
      obtain ⟨rfl, rfl⟩ := hcut
      go_wp2_with fail
      go_ret2
      exact ⟨rfl, rfl⟩
end Go.Proofs.YtcghnkdfhiancaaDoor
