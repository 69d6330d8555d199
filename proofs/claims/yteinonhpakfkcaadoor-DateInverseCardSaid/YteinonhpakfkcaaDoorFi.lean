/- DateInverse: the walk. -/
import Derived.Test.YteinonhpakfkcaaDoorDn
namespace Go.Proofs.YteinonhpakfkcaaDoor
open Go.RowKit Go.Shelf
namespace Cal
/-- The next date. -/
theorem next_spec {k : Int} (h0 : 0 ≤ k) (h1 : k < 3652058) :
    (cd k < dim (cy k) (cm k) ∧ cy (k + 1) = cy k ∧ cm (k + 1) = cm k ∧ cd (k + 1) = cd k + 1) ∨
    (cd k = dim (cy k) (cm k) ∧ cd (k + 1) = 1 ∧ ((cm k < 12 ∧ cy (k + 1) = cy k ∧ cm (k + 1) = cm k + 1) ∨ (cm k = 12 ∧ cy (k + 1) = cy k + 1 ∧ cm (k + 1) = 1))) := by
  obtain ⟨hv, hn⟩ := civ_spec (n := k) (right_iff.2 (by omega))
  obtain ⟨y1, y2, m1, m2, d1, d2⟩ := vld_iff.1 hv
  generalize cy k = y at *
  generalize cm k = m at *
  generalize cd k = d at *
  rcases Int.lt_or_eq_of_le d2 with hd | hd
  · left
    have h2 := num_spec (y := y) (m := m) (d := d + 1) (vld_iff.2 ⟨y1, y2, m1, m2, by omega, by omega⟩)
    rw [show num y m (d + 1) = k + 1 by rw [← hn]; unfold num; omega] at h2
    exact ⟨hd, h2.2⟩
  · right
    refine ⟨hd, ?_⟩
    rcases Int.lt_or_eq_of_le m2 with hm | hm
    · have h2 := num_spec (y := y) (m := m + 1) (d := 1) (vld_iff.2 ⟨y1, y2, by omega, by omega, by omega, dim_pos⟩)
      rw [show num y (m + 1) 1 = k + 1 by rw [← hn]; unfold num; rw [cum_succ y m m1 m2, hd]; omega] at h2
      exact ⟨h2.2.2.2, .inl ⟨hm, h2.2.1, h2.2.2.1⟩⟩
    · subst hm
      have e1 := dby_succ y
      have e2 := cum_succ y 12 (by omega) (by omega)
      rw [show (12 : Int) + 1 = 13 from rfl, cum_end] at e2
      have e3 : dby (y + 1) = k + 1 := by rw [← hn, e1, hd]; unfold num; omega
      have e4 : y + 1 ≤ 9999 := by
        rcases Int.lt_or_le 9999 (y + 1) with q | q
        · have := dby_le (show (10000 : Int) ≤ y + 1 by omega)
          rw [dby_max] at this
          omega
        · exact q
      have h2 := num_spec (y := y + 1) (m := 1) (d := 1) (vld_iff.2 ⟨by omega, e4, by omega, by omega, by omega, dim_pos⟩)
      rw [show num (y + 1) 1 1 = k + 1 by unfold num; rw [cum_one]; omega] at h2
      exact ⟨h2.2.2.2, .inr ⟨rfl, h2.2.1, h2.2.2.1⟩⟩
end Cal
set_option maxRecDepth 100000 in
set_option maxHeartbeats 3200000 in
theorem inverse_core (n : Int) (w : World) (hn : 0 ≤ n ∧ n ≤ 4294967295) (hw : Tw w) :
    Calls Tryd.prog 4 #[.int .u32 n] w (Yd w (.bool true)) := by
  obtain ⟨n0, n1⟩ := hn
  obtain ⟨k, hk⟩ : ∃ k, n % 3652058 = k := ⟨_, rfl⟩
  have k0 : 0 ≤ k := by omega
  have k1 : k < 3652058 := by omega
  have hr : Cal.right k = true := Cal.right_iff.2 (by omega)
  have hr1 : Cal.right (k + 1) = true := Cal.right_iff.2 (by omega)
  have hs := Cal.next_spec k0 k1
  obtain ⟨hv, hnum⟩ := Cal.civ_spec hr
  obtain ⟨y1, y2, m1, m2, d1, d2⟩ := Cal.vld_iff.1 hv
  have HW := Lib.hid hw
  have H0 := Lib.hid sanity3
  have H1 := C_Civ (n := k) (b := true) hr rfl rfl rfl
  have H2 := C_Civ (n := k + 1) (b := true) hr1 rfl rfl rfl
  simp only [if_true] at H1 H2
  generalize Cal.cy k = y at *
  generalize Cal.cm k = m at *
  generalize Cal.cd k = d at *
  have H3 := Lib.hid (C_Num (b := true) (by omega) hv (by rw [if_pos rfl, hnum]))
  have H4 := Lib.hid (C_Vld (b := true) (by omega) hv)
  have HH1 := Lib.hid H1
  have d3 : d ≤ 31 := by have := Cal.dim_bd y m; omega
  clear H1 hr hr1 d2
  rcases hs with ⟨hd, e1, e2, e3⟩ | ⟨hd, e3, hs⟩
  · rw [e1, e2, e3] at H2
    have HH2 := Lib.hid H2
    clear H2 e1 e2 e3 hv hnum hw
    have t1 : (d + 1 != 1) = true := by rw [bne_iff_ne]; omega
    clear hd
    have HC := Lib.hid (Ch.refl w.heap.size none1 w)
    go_enter Tryd.func4, Tryd.ntmps4
    go_wp2_with fail
    with_reducible refine (H0.out _ (HW.out.ch HC.out)).mono ?_
    rintro e w0 ⟨rfl, hC⟩
    have HC2 := Lib.hid (HC.out.trans (hC.mono HC.out.size (fun _ _ q => q)))
    clear hC HC
    have HC := HC2
    clear HC2
    go_wp2_with fail
    with_reducible refine (HH1.out _ (HW.out.ch HC.out)).mono ?_
    rintro e w1 ⟨rfl, hC⟩
    have HC2 := Lib.hid (HC.out.trans (hC.mono HC.out.size (fun _ _ q => q)))
    clear hC HC
    have HC := HC2
    clear HC2
    go_wp2_with fail
    with_reducible refine (HH2.out _ (HW.out.ch HC.out)).mono ?_
    rintro e w2 ⟨rfl, hC⟩
    have HC2 := Lib.hid (HC.out.trans (hC.mono HC.out.size (fun _ _ q => q)))
    clear hC HC
    have HC := HC2
    clear HC2
    go_wp2_with fail
    with_reducible refine (H3.out _ (HW.out.ch HC.out)).mono ?_
    rintro e w3 ⟨rfl, hC⟩
    have HC2 := Lib.hid (HC.out.trans (hC.mono HC.out.size (fun _ _ q => q)))
    clear hC HC
    have HC := HC2
    clear HC2
    go_wp2_with fail
    with_reducible refine (H4.out _ (HW.out.ch HC.out)).mono ?_
    rintro e w4 ⟨rfl, hC⟩
    have HC2 := Lib.hid (HC.out.trans (hC.mono HC.out.size (fun _ _ q => q)))
    clear hC HC
    have HC := HC2
    clear HC2
    go_wp2_with fail
    go_ret
    exact ⟨rfl, HC.out⟩
  · have H5 := Lib.hid (C_Vld (y := y) (m := m) (d := d + 1) (b := false) (by omega) (Cal.vld_not.2 fun q => by omega))
    have t3 : (1 == d + 1) = false := by rw [beq_eq_false_iff_ne]; omega
    clear hd
    rcases hs with ⟨hm, e1, e2⟩ | ⟨hm, e1, e2⟩
    · rw [e1, e2, e3] at H2
      have HH2 := Lib.hid H2
      clear H2 e1 e2 e3 hv hnum hw
      have t1 : (m + 1 == m) = false := by rw [beq_eq_false_iff_ne]; omega
      have HC := Lib.hid (Ch.refl w.heap.size none1 w)
      go_enter Tryd.func4, Tryd.ntmps4
      go_wp2_with fail
      with_reducible refine (H0.out _ (HW.out.ch HC.out)).mono ?_
      rintro e w0 ⟨rfl, hC⟩
      have HC2 := Lib.hid (HC.out.trans (hC.mono HC.out.size (fun _ _ q => q)))
      clear hC HC
      have HC := HC2
      clear HC2
      go_wp2_with fail
      with_reducible refine (HH1.out _ (HW.out.ch HC.out)).mono ?_
      rintro e w1 ⟨rfl, hC⟩
      have HC2 := Lib.hid (HC.out.trans (hC.mono HC.out.size (fun _ _ q => q)))
      clear hC HC
      have HC := HC2
      clear HC2
      go_wp2_with fail
      with_reducible refine (HH2.out _ (HW.out.ch HC.out)).mono ?_
      rintro e w2 ⟨rfl, hC⟩
      have HC2 := Lib.hid (HC.out.trans (hC.mono HC.out.size (fun _ _ q => q)))
      clear hC HC
      have HC := HC2
      clear HC2
      go_wp2_with fail
      with_reducible refine (H3.out _ (HW.out.ch HC.out)).mono ?_
      rintro e w3 ⟨rfl, hC⟩
      have HC2 := Lib.hid (HC.out.trans (hC.mono HC.out.size (fun _ _ q => q)))
      clear hC HC
      have HC := HC2
      clear HC2
      go_wp2_with fail
      with_reducible refine (H5.out _ (HW.out.ch HC.out)).mono ?_
      rintro e w4 ⟨rfl, hC⟩
      have HC2 := Lib.hid (HC.out.trans (hC.mono HC.out.size (fun _ _ q => q)))
      clear hC HC
      have HC := HC2
      clear HC2
      go_wp2_with fail
      with_reducible refine (H4.out _ (HW.out.ch HC.out)).mono ?_
      rintro e w5 ⟨rfl, hC⟩
      have HC2 := Lib.hid (HC.out.trans (hC.mono HC.out.size (fun _ _ q => q)))
      clear hC HC
      have HC := HC2
      clear HC2
      go_wp2_with fail
      go_ret
      exact ⟨rfl, HC.out⟩
    · rw [e1, e2, e3] at H2
      have HH2 := Lib.hid H2
      clear H2 e1 e2 e3 hv hnum hw
      have t1 : (y + 1 == y) = false := by rw [beq_eq_false_iff_ne]; omega
      have t4 : (m == 12) = true := by rw [beq_iff_eq]; exact hm
      have HM := Lib.hid hm
      clear hm
      have HC := Lib.hid (Ch.refl w.heap.size none1 w)
      go_enter Tryd.func4, Tryd.ntmps4
      go_wp2_with fail
      with_reducible refine (H0.out _ (HW.out.ch HC.out)).mono ?_
      rintro e w0 ⟨rfl, hC⟩
      have HC2 := Lib.hid (HC.out.trans (hC.mono HC.out.size (fun _ _ q => q)))
      clear hC HC
      have HC := HC2
      clear HC2
      go_wp2_with fail
      with_reducible refine (HH1.out _ (HW.out.ch HC.out)).mono ?_
      rintro e w1 ⟨rfl, hC⟩
      have HC2 := Lib.hid (HC.out.trans (hC.mono HC.out.size (fun _ _ q => q)))
      clear hC HC
      have HC := HC2
      clear HC2
      go_wp2_with fail
      with_reducible refine (HH2.out _ (HW.out.ch HC.out)).mono ?_
      rintro e w2 ⟨rfl, hC⟩
      have HC2 := Lib.hid (HC.out.trans (hC.mono HC.out.size (fun _ _ q => q)))
      clear hC HC
      have HC := HC2
      clear HC2
      go_wp2_with fail
      with_reducible refine (H3.out _ (HW.out.ch HC.out)).mono ?_
      rintro e w3 ⟨rfl, hC⟩
      have HC2 := Lib.hid (HC.out.trans (hC.mono HC.out.size (fun _ _ q => q)))
      clear hC HC
      have HC := HC2
      clear HC2
      go_wp2_with fail
      with_reducible refine (H5.out _ (HW.out.ch HC.out)).mono ?_
      rintro e w4 ⟨rfl, hC⟩
      have HC2 := Lib.hid (HC.out.trans (hC.mono HC.out.size (fun _ _ q => q)))
      clear hC HC
      have HC := HC2
      clear HC2
      go_wp2_with fail
      with_reducible refine (H4.out _ (HW.out.ch HC.out)).mono ?_
      rintro e w5 ⟨rfl, hC⟩
      have HC2 := Lib.hid (HC.out.trans (hC.mono HC.out.size (fun _ _ q => q)))
      clear hC HC
      have HC := HC2
      clear HC2
      go_wp2_with fail
      go_ret
      exact ⟨rfl, HC.out⟩
end Go.Proofs.YteinonhpakfkcaaDoor
