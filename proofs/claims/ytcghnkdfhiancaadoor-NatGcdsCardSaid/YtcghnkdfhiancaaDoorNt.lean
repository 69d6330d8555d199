/- Contracts of package nat's Mul, and of greatest common divisors of words. -/
import Derived.Test.YtcghnkdfhiancaaDoorNs
namespace Go.Proofs.YtcghnkdfhiancaaDoor
open Go.RowKit
set_option maxRecDepth 100000 in
set_option maxHeartbeats 1600000 in
theorem Mul_any (a b : List UInt8) (w : World) (ha : a.length ≤ LIM) (hb : b.length ≤ LIM) :
    Calls Tryd.prog 21 #[S a, S b] w fun e w' => e = .returned (S (nb (bv a * bv b))) ∧ Ch w.heap.size none1 w w' := by
  have ham : a.length ≤ maxLen := by unfold LIM at ha; unfold maxLen; omega
  have hbm : b.length ≤ maxLen := by unfold LIM at hb; unfold maxLen; omega
  by_cases hw : bv a < 18446744073709551616 ∧ bv b < 18446744073709551616
  · obtain ⟨h1, h2⟩ := hw
    have hwy := fun w => words_yes a b w ham hbm h1 h2
    have hmul := fun w => mul64_is (bv a) (bv b) _ _ w h1 h2 rfl rfl
    have HWY := Lib.hid hwy; clear hwy
    by_cases hs : bv a * bv b < D
    · rw [Nat.mod_eq_of_lt hs, Nat.div_eq_of_lt hs] at hmul
      have HW := Lib.hid (fun w => wordNat_any (bv a * bv b) w hs)
      have HM := Lib.hid hmul; clear hmul
      generalize hpp : bv a * bv b = pp at *
      have HP := Lib.hid hpp; clear hpp h1 h2 hs
      go_enter Tryd.func21, Tryd.ntmps21
      go_wp2_with fail
      refine (HWY.out _).mono ?_
      rintro e w' ⟨rfl, rfl⟩
      obtain ⟨w, rfl⟩ : ∃ w : World, w = w' := ⟨_, rfl⟩
      go_wp2_with fail
      refine (HM.out _).mono ?_
      rintro e w' ⟨rfl, rfl⟩
      obtain ⟨w, rfl⟩ : ∃ w : World, w = w' := ⟨_, rfl⟩
      go_wp2_with fail
      refine (HW.out _).mono ?_
      rintro e w2 ⟨rfl, hC⟩
      go_wp2_with fail
      go_ret
      exact ⟨rfl, hC⟩
    · have hq : bv a * bv b / D ≠ 0 := by
        rw [Nat.div_ne_zero_iff]; exact ⟨Nat.ne_of_gt D_pos, by omega⟩
      have hb0 := nat_ne_bool hq
      have HM := Lib.hid hmul; clear hmul
      generalize bv a * bv b / D = qq at *
      generalize bv a * bv b % D = rr at *
      clear hs h1 h2
      go_enter Tryd.func21, Tryd.ntmps21
      go_wp2_with fail
      refine (HWY.out _).mono ?_
      rintro e w' ⟨rfl, rfl⟩
      obtain ⟨w, rfl⟩ : ∃ w : World, w = w' := ⟨_, rfl⟩
      go_wp2_with fail
      refine (HM.out _).mono ?_
      rintro e w' ⟨rfl, rfl⟩
      obtain ⟨w, rfl⟩ : ∃ w : World, w = w' := ⟨_, rfl⟩
      go_wp2_with fail
      clear hq hb0
      refine (digitsOf_any a _ (by unfold LIM at ha; omega)).mono ?_
      rintro e w1 ⟨g1, rfl, hB1, hg1, hC1⟩
      go_wp2_with fail
      refine (digitsOf_any b _ (by unfold LIM at hb; omega)).mono ?_
      rintro e w2 ⟨g2, rfl, hB2, hg2, hC2⟩
      have hlt1 := hB1.lt
      have hB1' := hC2.blk hB1 hlt1 (fun q => q)
      have hC := hC1.step0 hC2 (Nat.le_refl _)
      clear hB1 hC1 hC2
      have hna := ds_lim a ha
      have hnb := ds_lim b hb
      have hd1 := dg_of_blk (post := []) (hB1'.cast (by simp)) (dok_ds (bv a)) _ rfl
      have hd2 := dg_of_blk (post := []) (hB2.cast (by simp)) (dok_ds (bv b)) _ rfl
      have HD1 := Lib.hid hd1
      have HD2 := Lib.hid hd2
      clear hd1 hd2 hB1' hB2
      go_wp2_with fail
      refine (multiply_any _ _ _ _ _ _ _ _ _ HD1.out HD2.out hna hnb).mono ?_
      rintro e w3 ⟨v, rfl, ho, hC3⟩
      rw [dv_ds, dv_ds] at ho
      have hC4 := hC.step0 hC3 (Nat.le_refl _)
      obtain ⟨p, cap, rfl, hd, _, _, _⟩ := ho.dg
      have hnl : (ds (bv a * bv b)).length ≤ 17592186044416 := by
        have h1 := mul_bound D _ _ _ _ ((ds_len (bv a) _).1 (Nat.le_refl _)) ((ds_len (bv b) _).1 (Nat.le_refl _))
        have h2 := (ds_len _ _).2 h1
        omega
      have HD3 := Lib.hid hd; clear hd ho
      go_wp2_with fail
      refine (natural_any _ _ _ _ _ HD3.out hnl).mono ?_
      rintro e w5 ⟨rfl, hC5⟩
      go_wp2_with fail
      go_ret
      exact ⟨by rw [dv_ds]; rfl, hC4.step0 hC5 (Nat.le_refl _)⟩
  · go_enter Tryd.func21, Tryd.ntmps21
    go_wp2_with fail
    refine (words_no a b _ ham hbm hw).mono ?_
    rintro e w' ⟨rfl, rfl⟩
    obtain ⟨w, rfl⟩ : ∃ w : World, w = w' := ⟨_, rfl⟩
    clear hw
    go_wp2_with fail
    refine (digitsOf_any a _ (by unfold LIM at ha; omega)).mono ?_
    rintro e w1 ⟨g1, rfl, hB1, hg1, hC1⟩
    go_wp2_with fail
    refine (digitsOf_any b _ (by unfold LIM at hb; omega)).mono ?_
    rintro e w2 ⟨g2, rfl, hB2, hg2, hC2⟩
    have hlt1 := hB1.lt
    have hB1' := hC2.blk hB1 hlt1 (fun q => q)
    have hC := hC1.step0 hC2 (Nat.le_refl _)
    clear hB1 hC1 hC2
    have hna := ds_lim a ha
    have hnb := ds_lim b hb
    have hd1 := dg_of_blk (post := []) (hB1'.cast (by simp)) (dok_ds (bv a)) _ rfl
    have hd2 := dg_of_blk (post := []) (hB2.cast (by simp)) (dok_ds (bv b)) _ rfl
    have HD1 := Lib.hid hd1
    have HD2 := Lib.hid hd2
    clear hd1 hd2 hB1' hB2
    go_wp2_with fail
    refine (multiply_any _ _ _ _ _ _ _ _ _ HD1.out HD2.out hna hnb).mono ?_
    rintro e w3 ⟨v, rfl, ho, hC3⟩
    rw [dv_ds, dv_ds] at ho
    have hC4 := hC.step0 hC3 (Nat.le_refl _)
    obtain ⟨p, cap, rfl, hd, _, _, _⟩ := ho.dg
    have hnl : (ds (bv a * bv b)).length ≤ 17592186044416 := by
      have h1 := mul_bound D _ _ _ _ ((ds_len (bv a) _).1 (Nat.le_refl _)) ((ds_len (bv b) _).1 (Nat.le_refl _))
      have h2 := (ds_len _ _).2 h1
      omega
    have HD3 := Lib.hid hd; clear hd ho
    go_wp2_with fail
    refine (natural_any _ _ _ _ _ HD3.out hnl).mono ?_
    rintro e w5 ⟨rfl, hC5⟩
    go_wp2_with fail
    go_ret
    exact ⟨by rw [dv_ds]; rfl, hC4.step0 hC5 (Nat.le_refl _)⟩
set_option maxRecDepth 100000 in
set_option maxHeartbeats 1600000 in
theorem commonWord_any (x y : Nat) (w : World) (hx : x < 18446744073709551616) (hy : y < 18446744073709551616) :
    Calls Tryd.prog 53 #[U x, U y] w fun e w' => e = .returned (U (Nat.gcd x y)) ∧ Ch w.heap.size none1 w w' := by
  go_enter Tryd.func53, Tryd.ntmps53
  go_wp2_with fail
  obtain ⟨wo, rfl⟩ : ∃ wo : World, wo = w := ⟨_, rfl⟩
  go_loopw [0, 1] (fun a b wr => ∃ u v : Nat, a = U u ∧ b = U v ∧ u < 18446744073709551616 ∧ v < 18446744073709551616 ∧ Nat.gcd u v = Nat.gcd x y ∧ Ch wo.heap.size none1 wo wr) (fun _ b _ => (intOf b).toNat)
  case atStart => exact ⟨x, y, rfl, rfl, hx, hy, rfl, Ch.refl _ _ _⟩
  case round =>
    obtain ⟨u, v, rfl, rfl, hu, hv, hg, hC⟩ := hrel
    have HG := Lib.hid hg; clear hg
    by_cases h0 : v = 0
    · subst h0
      go_wp2_with fail
      go_ret
      exact ⟨ret_nat (by rw [← HG.out, Nat.gcd_zero_right]), hC⟩
    · have hb := ne_bool h0
      have hm := Nat.mod_lt u (show 0 < v by omega)
      have hr : ((u : Nat) : Int).tmod (v : Int) = ((u % v : Nat) : Int) := by rw [Int.tmod_eq_emod_of_nonneg (by omega)]; exact (Int.natCast_emod _ _).symm
      have hr2 : ((u : Nat) : Int) % (v : Int) = ((u % v : Nat) : Int) := (Int.natCast_emod _ _).symm
      have hgg : Nat.gcd v (u % v) = Nat.gcd x y := by rw [Nat.gcd_comm, ← Nat.gcd_rec, Nat.gcd_comm]; exact HG.out
      have HGG := Lib.hid hgg; clear hgg
      generalize u % v = r at *
      go_wp2_with fail
      go_quiet (fail)
      go_wp2_with fail
      go_roundw
      case rel => exact ⟨v, r, rfl, by first | rfl | rw [hr2], hv, by omega, HGG.out, hC.drewN _⟩
      case measure => simp [intOf]; omega
set_option maxRecDepth 100000 in
set_option maxHeartbeats 1600000 in
theorem Gcd_words (a b : List UInt8) (w : World) (ha : a.length ≤ LIM) (hb : b.length ≤ LIM) (h1 : bv a < 18446744073709551616) (h2 : bv b < 18446744073709551616) :
    Calls Tryd.prog 23 #[S a, S b] w fun e w' => e = .returned (S (nb (Nat.gcd (bv a) (bv b)))) ∧ Ch w.heap.size none1 w w' := by
  have ham : a.length ≤ maxLen := by unfold LIM at ha; unfold maxLen; omega
  have hbm : b.length ≤ maxLen := by unfold LIM at hb; unfold maxLen; omega
  have hg : Nat.gcd (bv a) (bv b) < 18446744073709551616 := by
    rcases Nat.eq_zero_or_pos (bv a) with h | h
    · rw [h, Nat.gcd_zero_left]; exact h2
    · exact Nat.lt_of_le_of_lt (Nat.gcd_le_left _ h) h1
  go_enter Tryd.func23, Tryd.ntmps23
  go_wp2_with fail
  refine (words_yes a b _ ham hbm h1 h2).mono ?_
  rintro e w' ⟨rfl, rfl⟩
  obtain ⟨w, rfl⟩ : ∃ w : World, w = w' := ⟨_, rfl⟩
  go_wp2_with fail
  refine (commonWord_any _ _ _ h1 h2).mono ?_
  rintro e w1 ⟨rfl, hC1⟩
  go_wp2_with fail
  refine (wordNat_any _ _ hg).mono ?_
  rintro e w2 ⟨rfl, hC2⟩
  go_wp2_with fail
  go_ret
  exact ⟨rfl, hC1.step0 hC2 (Nat.le_refl _)⟩
end Go.Proofs.YtcghnkdfhiancaaDoor
