/- Contracts of package nat's Mul, and of greatest common divisors of words. -/
import Derived.Test.YtcghnkdfhiancaaGreatDoorNs
namespace Go.Proofs.YtcghnkdfhiancaaGreatDoor
open Go.RowKit
set_option maxRecDepth 100000 in
set_option maxHeartbeats 1600000 in
theorem commonWord_any (x y : Nat) (w : World) (hx : x < 18446744073709551616) (hy : y < 18446744073709551616) :
    Calls Tryz.prog 45 #[U x, U y] w fun e w' => e = .returned (U (Nat.gcd x y)) ∧ Ch w.heap.size none1 w w' := by
  go_enter Tryz.func45, Tryz.ntmps45
  go_wp2_with fail
  obtain ⟨wo, rfl⟩ : ∃ wo : World, wo = w := ⟨_, rfl⟩
  go_loopw [0, 1] (fun a b wr => ∃ u v : Nat, a = U u ∧ b = U v ∧ u < 18446744073709551616 ∧ v < 18446744073709551616 ∧ Nat.gcd u v = Nat.gcd x y ∧ Ch wo.heap.size none1 wo wr) (fun _ b _ => (intOf b).toNat)
  case atStart => exact ⟨x, y, rfl, rfl, hx, hy, rfl, Ch.refl _ _ _⟩
  case round =>
    obtain ⟨u, v, rfl, rfl, hu, hv, hg, hC⟩ := hrel
    have HG := Lib.hid hg; clear hg
    by_cases h0 : v = 0
    · subst h0
      go_wp2_with fail
      go_ret
      exact ⟨ret_nat (by rw [← HG.out, Nat.gcd_zero_right]), hC⟩
    · have hb := ne_bool h0
      have hm := Nat.mod_lt u (show 0 < v by omega)
      have hr : ((u : Nat) : Int).tmod (v : Int) = ((u % v : Nat) : Int) := by rw [Int.tmod_eq_emod_of_nonneg (by omega)]; exact (Int.natCast_emod _ _).symm
      have hr2 : ((u : Nat) : Int) % (v : Int) = ((u % v : Nat) : Int) := (Int.natCast_emod _ _).symm
      have hgg : Nat.gcd v (u % v) = Nat.gcd x y := by rw [Nat.gcd_comm, ← Nat.gcd_rec, Nat.gcd_comm]; exact HG.out
      have HGG := Lib.hid hgg; clear hgg
      generalize u % v = r at *
      go_wp2_with fail
      go_quiet (fail)
      go_wp2_with fail
      go_roundw
      case rel => exact ⟨v, r, rfl, by first | rfl | rw [hr2], hv, by omega, HGG.out, hC.drewN _⟩
      case measure => simp [intOf]; omega
set_option maxRecDepth 100000 in
set_option maxHeartbeats 1600000 in
theorem Gcd_words (a b : List UInt8) (w : World) (ha : a.length ≤ LIM) (hb : b.length ≤ LIM) (h1 : bv a < 18446744073709551616) (h2 : bv b < 18446744073709551616) :
    Calls Tryz.prog 21 #[S a, S b] w fun e w' => e = .returned (S (nb (Nat.gcd (bv a) (bv b)))) ∧ Ch w.heap.size none1 w w' := by
  have ham : a.length ≤ maxLen := by unfold LIM at ha; unfold maxLen; omega
  have hbm : b.length ≤ maxLen := by unfold LIM at hb; unfold maxLen; omega
  have hg : Nat.gcd (bv a) (bv b) < 18446744073709551616 := by
    rcases Nat.eq_zero_or_pos (bv a) with h | h
    · rw [h, Nat.gcd_zero_left]; exact h2
    · exact Nat.lt_of_le_of_lt (Nat.gcd_le_left _ h) h1
  go_enter Tryz.func21, Tryz.ntmps21
  go_wp2_with fail
  refine (words_yes a b _ ham hbm h1 h2).mono ?_
  rintro e w' ⟨rfl, rfl⟩
  obtain ⟨w, rfl⟩ : ∃ w : World, w = w' := ⟨_, rfl⟩
  go_wp2_with fail
  refine (commonWord_any _ _ _ h1 h2).mono ?_
  rintro e w1 ⟨rfl, hC1⟩
  go_wp2_with fail
  refine (wordNat_any _ _ hg).mono ?_
  rintro e w2 ⟨rfl, hC2⟩
  go_wp2_with fail
  go_ret
  exact ⟨rfl, hC1.step0 hC2 (Nat.le_refl _)⟩
end Go.Proofs.YtcghnkdfhiancaaGreatDoor
