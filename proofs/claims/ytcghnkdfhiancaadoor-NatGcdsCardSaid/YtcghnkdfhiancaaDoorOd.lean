/- Contract of package nat's newMontgomery. -/
import Derived.Test.YtcghnkdfhiancaaDoorOc
import Derived.Laws.Rows
namespace Go.Proofs.YtcghnkdfhiancaaDoor
open Go.RowKit
theorem emod_near (z B : Int) : B ∣ z % B - z := ⟨-(z / B), by have := Int.emod_add_mul_ediv z B; grind⟩
/-- Each round doubles the number of bits that are right. -/
theorem newton (m x y B K T : Int) (h : K ∣ m * x - 1) (hy : B ∣ y - x * (2 - m * x)) (hTK : T ∣ K * K) (hTB : T ∣ B) : T ∣ m * y - 1 := by
  have e : m * y - 1 = m * (y - x * (2 - m * x)) - (m * x - 1) * (m * x - 1) := by grind
  rw [e]
  exact Int.dvd_sub (Int.dvd_trans (Int.dvd_trans hTB hy) (Int.dvd_mul_left _ _)) (Int.dvd_trans hTK (Int.mul_dvd_mul h h))
theorem newton_words (m x B : Int) : B ∣ (x * ((2 - (m * x) % B) % B)) % B - x * (2 - m * x) := by
  have h1 := emod_near (m * x) B
  have h2 := emod_near (2 - (m * x) % B) B
  have h3 := emod_near (x * ((2 - (m * x) % B) % B)) B
  generalize (m * x) % B = v at *
  generalize (2 - v) % B = u at *
  generalize (x * u) % B = y at *
  have e : y - x * (2 - m * x) = (y - x * u) + x * ((u - (2 - v)) - (v - m * x)) := by grind
  rw [e]
  exact Int.dvd_add h3 (Int.dvd_trans (Int.dvd_sub h2 h1) (Int.dvd_mul_left _ _))
/-- The bits that are right behind j rounds. -/
def newBits (j : Nat) : Nat := min (3 * 2 ^ j) 64
theorem newBits_next (j : Nat) : ((2 ^ newBits (j + 1) : Nat) : Int) ∣ ((2 ^ newBits j : Nat) : Int) * ((2 ^ newBits j : Nat) : Int) ∧ ((2 ^ newBits (j + 1) : Nat) : Int) ∣ ((D : Nat) : Int) := by
  have h1 : newBits (j + 1) ≤ newBits j + newBits j := by unfold newBits; rw [Nat.pow_succ]; omega
  have h2 : newBits (j + 1) ≤ 64 := by unfold newBits; omega
  refine ⟨?_, ?_⟩
  · rw [← Int.natCast_mul, ← Nat.pow_add]
    exact Int.ofNat_dvd.2 (Nat.pow_dvd_pow 2 h1)
  · rw [show D = 2 ^ 64 from by decide]
    exact Int.ofNat_dvd.2 (Nat.pow_dvd_pow 2 h2)
/-- An odd number is its own inverse modulo 8. -/
theorem odd_square (m : Nat) (h : m % 2 = 1) : ((2 ^ newBits 0 : Nat) : Int) ∣ (m : Int) * m - 1 := by
  rw [show newBits 0 = 3 from by decide]
  have h1 : m % 8 = 1 ∨ m % 8 = 3 ∨ m % 8 = 5 ∨ m % 8 = 7 := by omega
  have h2 : (m * m) % 8 = 1 := by rw [Nat.mul_mod]; rcases h1 with h | h | h | h <;> rw [h]
  have h3 : ((m : Int) * m) = ((m * m : Nat) : Int) := by simp
  rw [h3]
  generalize m * m = z at *
  have : ((2 ^ 3 : Nat) : Int) = 8 := by decide
  rw [this]
  omega
theorem new_end (M m x f : Nat) (hM : M % D = m % D) (hx : ((D : Nat) : Int) ∣ (m : Int) * x - 1) (hf : (f : Int) = (-(x : Int)) % ((D : Nat) : Int)) : (M * f + 1) % D = 0 := by
  have h1 : ((D : Nat) : Int) ∣ (M : Int) - m := by
    have a1 := emod_near (M : Int) ((D : Nat) : Int)
    have a2 := emod_near (m : Int) ((D : Nat) : Int)
    have a3 : (M : Int) % ((D : Nat) : Int) = (m : Int) % ((D : Nat) : Int) := by rw [← Int.natCast_emod, ← Int.natCast_emod, hM]
    rw [a3] at a1
    have e : (M : Int) - m = ((m : Int) % ((D : Nat) : Int) - m) - ((m : Int) % ((D : Nat) : Int) - M) := by grind
    rw [e]
    exact Int.dvd_sub a2 a1
  have h2 := emod_near (-(x : Int)) ((D : Nat) : Int)
  rw [← hf] at h2
  have e : ((M * f + 1 : Nat) : Int) = ((M : Int) - m) * f + m * ((f : Int) - -(x : Int)) - ((m : Int) * x - 1) := by
    rw [Int.natCast_add, Int.natCast_mul]
    grind
  have h3 : ((D : Nat) : Int) ∣ ((M * f + 1 : Nat) : Int) := by
    rw [e]
    exact Int.dvd_sub (Int.dvd_add (Int.dvd_trans h1 (Int.dvd_mul_right _ _)) (Int.dvd_trans h2 (Int.dvd_mul_left _ _))) hx
  exact Nat.mod_eq_zero_of_dvd (Int.ofNat_dvd.1 h3)
theorem wrap_nat (n : Int) : ∃ y : Nat, IntKind.u64.wrap n = (y : Int) ∧ y < D ∧ (y : Int) = n % ((D : Nat) : Int) := by
  have hD : ((D : Nat) : Int) = 18446744073709551616 := by decide
  have h1 := Int.emod_nonneg n (show (18446744073709551616 : Int) ≠ 0 by decide)
  have h2 := Int.emod_lt_of_pos n (show (0 : Int) < 18446744073709551616 by decide)
  refine ⟨(n % 18446744073709551616).toNat, ?_, ?_, ?_⟩
  · rw [wrap_u, Int.toNat_of_nonneg h1]
  · omega
  · rw [hD, Int.toNat_of_nonneg h1]
theorem newton_step (m z j : Nat) (h : ((2 ^ newBits j : Nat) : Int) ∣ (m : Int) * z - 1) : ∃ y : Nat, IntKind.u64.wrap ((z : Int) * IntKind.u64.wrap (2 - IntKind.u64.wrap ((m : Int) * z))) = (y : Int) ∧ y < D ∧ ((2 ^ newBits (j + 1) : Nat) : Int) ∣ (m : Int) * y - 1 := by
  obtain ⟨v, hv, _, hv2⟩ := wrap_nat ((m : Int) * z)
  rw [hv]
  obtain ⟨u, hu, _, hu2⟩ := wrap_nat (2 - (v : Int))
  rw [hu]
  obtain ⟨y, hy, hyD, hy2⟩ := wrap_nat ((z : Int) * u)
  refine ⟨y, hy, hyD, newton m z y ((D : Nat) : Int) _ _ h ?_ (newBits_next j).1 (newBits_next j).2⟩
  have := newton_words (m : Int) z ((D : Nat) : Int)
  rw [← hv2, ← hu2, ← hy2] at this
  exact this
set_option maxRecDepth 100000 in
set_option maxHeartbeats 1600000 in
theorem newMont_any (M n cm : Nat) (pm : Option Addr) (w : World) (hd : Dg w pm n (ds M)) (hodd : M % 2 = 1) :
    Calls Tryd.prog 84 #[.slice pm n cm] w fun e w' => ∃ f : Nat, e = .returned (.agg #[.slice pm n cm, .int .u64 (f : Int)]) ∧ f < D ∧ (M * f + 1) % D = 0 ∧ Ch w.heap.size none1 w w' := by
  have hn0 : 0 < n := by rw [← hd.len]; exact ds_pos_len (by omega)
  obtain ⟨gm, om, rfl⟩ := hd.addr hn0
  have hm0 := hd.get 0 hn0
  rw [Nat.add_zero] at hm0
  have hgl : gm < w.heap.size := hd.lt_size _ rfl
  have hma := fun o => (((Ch.refl w.heap.size none1 w).alloc (Nat.le_refl _) o).cell (p := ⟨gm, om, none⟩) hgl (fun q => q)).trans hm0
  have hmb := hd.lt _ (List.getElem_mem (by rw [hd.len]; exact hn0 : 0 < (ds M).length))
  obtain ⟨m, hm⟩ : ∃ m, (ds M)[0]'(by rw [hd.len]; exact hn0) = m := ⟨_, rfl⟩
  simp only [hm] at hm0 hma
  rw [hm] at hmb
  have hMm : M % D = m % D := by
    rcases hds : ds M with _ | ⟨a, l⟩
    · have := hd.len; rw [hds] at this; simp at this; omega
    · have h1 := dv_ds M
      simp only [hds, List.getElem_cons_zero] at hm
      rw [hds, dv_cons] at h1
      rw [← h1, hm, Nat.add_mul_mod_self_left]
  have hm2 : m % 2 = 1 := by
    have : M % D % 2 = m % D % 2 := by rw [hMm]
    rw [Nat.mod_mod_of_dvd _ (by decide), Nat.mod_mod_of_dvd _ (by decide)] at this
    omega
  clear hm hd
  have HMM := Lib.hid hMm; clear hMm
  have HM2 := Lib.hid hm2; clear hm2 hodd
  go_enter Tryd.func84, Tryd.ntmps84
  go_wp2_with fail
  go_loop [3, 7] (fun x i => ∃ (j z : Nat), j ≤ 5 ∧ i = .int .i64 j ∧ x = .int .u64 (z : Int) ∧ z < D ∧ ((2 ^ newBits j : Nat) : Int) ∣ (m : Int) * z - 1) (fun _ i => 5 - (intOf i).toNat)
  case atStart => exact ⟨0, m, by omega, rfl, rfl, hmb, odd_square m HM2.out⟩
  case round =>
    obtain ⟨j, z, hj, rfl, rfl, hz, hinv⟩ := hrel
    have HINV := Lib.hid hinv; clear hinv
    by_cases hlt : j < 5
    · obtain ⟨y, hy, hyD, hyi⟩ := newton_step m z j HINV.out
      have HY := Lib.hid hy; clear hy
      have HYI := Lib.hid hyi; clear hyi
      go_wp2_with fail
      exact ⟨⟨j + 1, y, by omega, by simp, by rw [HY.out], hyD, HYI.out⟩, by simp [intOf]; omega⟩
    · have h5 : j = 5 := by omega
      subst h5
      go_wp2_with fail
      obtain ⟨f, hf, hfD, hf2⟩ := wrap_nat (-(z : Int))
      rw [hf]
      refine bodyPost_ret (results_cell_row (P := Tryd.prog) rfl _ _ w.heap.size 96 _ (0, 0) _ rfl (heap_alloc_new w _) Tryd.underlying96 rfl (by kernel_rfl)) rfl ?_
      refine ⟨f, rfl, hfD, new_end M m z f HMM.out ?_ hf2, (Ch.refl w.heap.size none1 w).alloc (Nat.le_refl _) _⟩
      exact HINV.out
end Go.Proofs.YtcghnkdfhiancaaDoor
