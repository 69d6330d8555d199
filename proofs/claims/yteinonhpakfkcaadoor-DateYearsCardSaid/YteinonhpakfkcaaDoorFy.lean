/- DateYears: the walk. -/
import Derived.Test.YteinonhpakfkcaaDoorDn
namespace Go.Proofs.YteinonhpakfkcaaDoor
open Go.RowKit Go.Shelf
namespace Cal
theorem lp_400 (y : Int) : lp (y + 400) = lp y := by
  unfold lp
  have h1 : (y + 400) % 4 = y % 4 := by omega
  have h2 : (y + 400) % 100 = y % 100 := by omega
  have h3 : (y + 400) % 400 = y % 400 := by omega
  rw [h1, h2, h3]
theorem dim_400 (y m : Int) : dim (y + 400) m = dim y m := by unfold dim; rw [lp_400]
theorem cum_400 (y m : Int) : cum (y + 400) m = cum y m := by unfold cum; rw [lp_400]
theorem dby_400 (y : Int) : dby (y + 400) = dby y + 146097 := by unfold dby; omega
theorem num_400 (y m d : Int) : num (y + 400) m d = num y m d + 146097 := by unfold num; rw [dby_400, cum_400]; omega
theorem vld_400 {y : Int} (h0 : 1 ≤ y) (h1 : y ≤ 9599) (m d : Int) : vld (y + 400) m d = vld y m d := by
  rw [Bool.eq_iff_iff, vld_iff, vld_iff, dim_400]
  omega
theorem num_bd {y m d : Int} (h : vld y m d = true) : 0 ≤ num y m d ∧ num y m d ≤ 3652058 := right_iff.1 (num_spec h).1
end Cal
set_option maxRecDepth 100000 in
set_option maxHeartbeats 3200000 in
theorem years_core (q r s : Int) (w : World) (hq : 0 ≤ q ∧ q ≤ 65535) (hr : 0 ≤ r ∧ r ≤ 255) (hs : 0 ≤ s ∧ s ≤ 255) (hw : Tw w) :
    Calls Tryd.prog 5 #[.int .u16 q, .int .u8 r, .int .u8 s] w (Yd w (.bool true)) := by
  obtain ⟨q0, q1⟩ := hq
  obtain ⟨r0, r1⟩ := hr
  obtain ⟨s0, s1⟩ := hs
  obtain ⟨z, hz⟩ : ∃ z, q % 9599 = z := ⟨_, rfl⟩
  obtain ⟨m, hm⟩ : ∃ m, r % 14 = m := ⟨_, rfl⟩
  obtain ⟨d, hd⟩ : ∃ d, s % 33 = d := ⟨_, rfl⟩
  have z0 : 0 ≤ z := by omega
  have z1 : z ≤ 9598 := by omega
  have m0 : 0 ≤ m := by omega
  have m1 : m ≤ 13 := by omega
  have d0 : 0 ≤ d := by omega
  have d1 : d ≤ 32 := by omega
  have HW := Lib.hid hw
  have H0 := Lib.hid sanity3
  have v1 : Cal.vld (1 + z) 1 1 = true := Cal.vld_iff.2 ⟨by omega, by omega, by omega, by omega, by omega, Cal.dim_pos⟩
  have v2 : Cal.vld (1 + z) 12 31 = true := Cal.vld_iff.2 ⟨by omega, by omega, by omega, by omega, by omega, by unfold Cal.dim; simp⟩
  have l1 := Cal.lp_01 (1 + z)
  have e1 : Cal.num (1 + z) 1 1 = Cal.dby (1 + z) := by unfold Cal.num; rw [Cal.cum_one]; omega
  have e2 : Cal.num (1 + z) 12 31 = Cal.dby (1 + z) + 364 + Cal.lp (1 + z) := by
    have c1 := Cal.cum_succ (1 + z) 12 (by omega) (by omega)
    rw [show (12 : Int) + 1 = 13 from rfl, Cal.cum_end, show Cal.dim (1 + z) 12 = 31 by unfold Cal.dim; simp] at c1
    unfold Cal.num
    omega
  have db := dby_range (1 + z) (by omega) (by omega)
  have e3 := Cal.vld_400 (y := 1 + z) (by omega) (by omega) m d
  have e4 := Cal.num_400 (1 + z) m d
  have H1 := Lib.hid (C_Num (n := Cal.dby (1 + z)) (b := true) (by omega) v1 (by rw [if_pos rfl, e1]))
  have H2 := C_Num (n := Cal.dby (1 + z) + 364 + Cal.lp (1 + z)) (b := true) (by omega) v2 (by rw [if_pos rfl, e2])
  have H3 := C_Vld (y := 1 + z) (m := 2) (d := 29) (b := decide (Cal.lp (1 + z) = 1)) (by omega) (by rw [Bool.eq_iff_iff, Cal.vld_iff, decide_eq_true_eq]; unfold Cal.dim; rw [if_pos rfl]; omega)
  have H4 := Lib.hid (C_Vld (y := 1 + z) (m := 2) (d := 30) (b := false) (by omega) (Cal.vld_not.2 (by unfold Cal.dim; rw [if_pos rfl]; omega)))
  have H5 := Lib.hid (C_Vld (y := 1 + z) (m := 2) (d := 28) (b := true) (by omega) (Cal.vld_iff.2 (by unfold Cal.dim; rw [if_pos rfl]; omega)))
  clear v1 v2 e1 e2 hw
  have key : ∃ (b : Bool) (c : Int), AnsW 14 #[iz (1 + z), iz m, iz d] (.tuple #[iz c, .bool b]) ∧ AnsW 14 #[iz (1 + z + 400), iz m, iz d] (.tuple #[iz (if b then c + 146097 else 0), .bool b]) ∧ 0 ≤ c ∧ c ≤ 3652058 := by
    rcases hv : Cal.vld (1 + z) m d
    · exact ⟨false, 0, C_Num (by omega) hv rfl, C_Num (by omega) (by rw [e3, hv]) rfl, by omega, by omega⟩
    · have hb := Cal.num_bd hv
      exact ⟨true, _, C_Num (by omega) hv rfl, C_Num (b := true) (by omega) (by rw [e3, hv]) (by rw [if_pos rfl, if_pos rfl, e4]; rfl), hb.1, hb.2⟩
  obtain ⟨b, c, h6, h7, c0, c1⟩ := key
  have H6 := Lib.hid h6
  clear h6 e3 e4
  obtain ⟨A, hA⟩ : ∃ A, Cal.dby (1 + z) = A := ⟨_, rfl⟩
  rw [hA] at H1 H2 db
  clear hA
  obtain ⟨db0, db1⟩ := db
  rcases (show Cal.lp (1 + z) = 0 ∨ Cal.lp (1 + z) = 1 from by omega) with hl | hl
  · rw [hl] at H2 H3
    have H2 := Lib.hid H2
    have H3 := Lib.hid H3
    clear hl l1
    have t1 : (A + 364 + 0 - A == 364) = true := by rw [beq_iff_eq]; omega
    cases b with
    | false =>
      have H7 := Lib.hid h7
      clear h7
      have HC := Lib.hid (Ch.refl w.heap.size none1 w)
      go_enter Tryd.func5, Tryd.ntmps5
      go_wp2_with fail
      with_reducible refine (H0.out _ (HW.out.ch HC.out)).mono ?_
      rintro e w0 ⟨rfl, hC⟩
      have HC2 := Lib.hid (HC.out.trans (hC.mono HC.out.size (fun _ _ q => q)))
      clear hC HC
      have HC := HC2
      clear HC2
      go_wp2_with fail
      with_reducible refine (H1.out _ (HW.out.ch HC.out)).mono ?_
      rintro e w1 ⟨rfl, hC⟩
      have HC2 := Lib.hid (HC.out.trans (hC.mono HC.out.size (fun _ _ q => q)))
      clear hC HC
      have HC := HC2
      clear HC2
      go_wp2_with fail
      with_reducible refine (H2.out _ (HW.out.ch HC.out)).mono ?_
      rintro e w2 ⟨rfl, hC⟩
      have HC2 := Lib.hid (HC.out.trans (hC.mono HC.out.size (fun _ _ q => q)))
      clear hC HC
      have HC := HC2
      clear HC2
      go_wp2_with fail
      with_reducible refine (H3.out _ (HW.out.ch HC.out)).mono ?_
      rintro e w3 ⟨rfl, hC⟩
      have HC2 := Lib.hid (HC.out.trans (hC.mono HC.out.size (fun _ _ q => q)))
      clear hC HC
      have HC := HC2
      clear HC2
      go_wp2_with fail
      with_reducible refine (H6.out _ (HW.out.ch HC.out)).mono ?_
      rintro e w4 ⟨rfl, hC⟩
      have HC2 := Lib.hid (HC.out.trans (hC.mono HC.out.size (fun _ _ q => q)))
      clear hC HC
      have HC := HC2
      clear HC2
      go_wp2_with fail
      with_reducible refine (H7.out _ (HW.out.ch HC.out)).mono ?_
      rintro e w5 ⟨rfl, hC⟩
      have HC2 := Lib.hid (HC.out.trans (hC.mono HC.out.size (fun _ _ q => q)))
      clear hC HC
      have HC := HC2
      clear HC2
      go_wp2_with fail
      with_reducible refine (H4.out _ (HW.out.ch HC.out)).mono ?_
      rintro e w6 ⟨rfl, hC⟩
      have HC2 := Lib.hid (HC.out.trans (hC.mono HC.out.size (fun _ _ q => q)))
      clear hC HC
      have HC := HC2
      clear HC2
      go_wp2_with fail
      with_reducible refine (H5.out _ (HW.out.ch HC.out)).mono ?_
      rintro e w7 ⟨rfl, hC⟩
      have HC2 := Lib.hid (HC.out.trans (hC.mono HC.out.size (fun _ _ q => q)))
      clear hC HC
      have HC := HC2
      clear HC2
      go_wp2_with fail
      go_ret
      exact ⟨rfl, HC.out⟩
    | true =>
      have H7 := Lib.hid h7
      clear h7
      have t2 : (c + 146097 - c == 146097) = true := by rw [beq_iff_eq]; omega
      have HC := Lib.hid (Ch.refl w.heap.size none1 w)
      go_enter Tryd.func5, Tryd.ntmps5
      go_wp2_with fail
      with_reducible refine (H0.out _ (HW.out.ch HC.out)).mono ?_
      rintro e w0 ⟨rfl, hC⟩
      have HC2 := Lib.hid (HC.out.trans (hC.mono HC.out.size (fun _ _ q => q)))
      clear hC HC
      have HC := HC2
      clear HC2
      go_wp2_with fail
      with_reducible refine (H1.out _ (HW.out.ch HC.out)).mono ?_
      rintro e w1 ⟨rfl, hC⟩
      have HC2 := Lib.hid (HC.out.trans (hC.mono HC.out.size (fun _ _ q => q)))
      clear hC HC
      have HC := HC2
      clear HC2
      go_wp2_with fail
      with_reducible refine (H2.out _ (HW.out.ch HC.out)).mono ?_
      rintro e w2 ⟨rfl, hC⟩
      have HC2 := Lib.hid (HC.out.trans (hC.mono HC.out.size (fun _ _ q => q)))
      clear hC HC
      have HC := HC2
      clear HC2
      go_wp2_with fail
      with_reducible refine (H3.out _ (HW.out.ch HC.out)).mono ?_
      rintro e w3 ⟨rfl, hC⟩
      have HC2 := Lib.hid (HC.out.trans (hC.mono HC.out.size (fun _ _ q => q)))
      clear hC HC
      have HC := HC2
      clear HC2
      go_wp2_with fail
      with_reducible refine (H6.out _ (HW.out.ch HC.out)).mono ?_
      rintro e w4 ⟨rfl, hC⟩
      have HC2 := Lib.hid (HC.out.trans (hC.mono HC.out.size (fun _ _ q => q)))
      clear hC HC
      have HC := HC2
      clear HC2
      go_wp2_with fail
      with_reducible refine (H7.out _ (HW.out.ch HC.out)).mono ?_
      rintro e w5 ⟨rfl, hC⟩
      have HC2 := Lib.hid (HC.out.trans (hC.mono HC.out.size (fun _ _ q => q)))
      clear hC HC
      have HC := HC2
      clear HC2
      go_wp2_with fail
      with_reducible refine (H4.out _ (HW.out.ch HC.out)).mono ?_
      rintro e w6 ⟨rfl, hC⟩
      have HC2 := Lib.hid (HC.out.trans (hC.mono HC.out.size (fun _ _ q => q)))
      clear hC HC
      have HC := HC2
      clear HC2
      go_wp2_with fail
      with_reducible refine (H5.out _ (HW.out.ch HC.out)).mono ?_
      rintro e w7 ⟨rfl, hC⟩
      have HC2 := Lib.hid (HC.out.trans (hC.mono HC.out.size (fun _ _ q => q)))
      clear hC HC
      have HC := HC2
      clear HC2
      go_wp2_with fail
      go_ret
      exact ⟨rfl, HC.out⟩
  · rw [hl] at H2 H3
    have H2 := Lib.hid H2
    have H3 := Lib.hid H3
    clear hl l1
    have t1 : (A + 364 + 1 - A == 365) = true := by rw [beq_iff_eq]; omega
    cases b with
    | false =>
      have H7 := Lib.hid h7
      clear h7
      have HC := Lib.hid (Ch.refl w.heap.size none1 w)
      go_enter Tryd.func5, Tryd.ntmps5
      go_wp2_with fail
      with_reducible refine (H0.out _ (HW.out.ch HC.out)).mono ?_
      rintro e w0 ⟨rfl, hC⟩
      have HC2 := Lib.hid (HC.out.trans (hC.mono HC.out.size (fun _ _ q => q)))
      clear hC HC
      have HC := HC2
      clear HC2
      go_wp2_with fail
      with_reducible refine (H1.out _ (HW.out.ch HC.out)).mono ?_
      rintro e w1 ⟨rfl, hC⟩
      have HC2 := Lib.hid (HC.out.trans (hC.mono HC.out.size (fun _ _ q => q)))
      clear hC HC
      have HC := HC2
      clear HC2
      go_wp2_with fail
      with_reducible refine (H2.out _ (HW.out.ch HC.out)).mono ?_
      rintro e w2 ⟨rfl, hC⟩
      have HC2 := Lib.hid (HC.out.trans (hC.mono HC.out.size (fun _ _ q => q)))
      clear hC HC
      have HC := HC2
      clear HC2
      go_wp2_with fail
      with_reducible refine (H3.out _ (HW.out.ch HC.out)).mono ?_
      rintro e w3 ⟨rfl, hC⟩
      have HC2 := Lib.hid (HC.out.trans (hC.mono HC.out.size (fun _ _ q => q)))
      clear hC HC
      have HC := HC2
      clear HC2
      go_wp2_with fail
      with_reducible refine (H6.out _ (HW.out.ch HC.out)).mono ?_
      rintro e w4 ⟨rfl, hC⟩
      have HC2 := Lib.hid (HC.out.trans (hC.mono HC.out.size (fun _ _ q => q)))
      clear hC HC
      have HC := HC2
      clear HC2
      go_wp2_with fail
      with_reducible refine (H7.out _ (HW.out.ch HC.out)).mono ?_
      rintro e w5 ⟨rfl, hC⟩
      have HC2 := Lib.hid (HC.out.trans (hC.mono HC.out.size (fun _ _ q => q)))
      clear hC HC
      have HC := HC2
      clear HC2
      go_wp2_with fail
      with_reducible refine (H4.out _ (HW.out.ch HC.out)).mono ?_
      rintro e w6 ⟨rfl, hC⟩
      have HC2 := Lib.hid (HC.out.trans (hC.mono HC.out.size (fun _ _ q => q)))
      clear hC HC
      have HC := HC2
      clear HC2
      go_wp2_with fail
      with_reducible refine (H5.out _ (HW.out.ch HC.out)).mono ?_
      rintro e w7 ⟨rfl, hC⟩
      have HC2 := Lib.hid (HC.out.trans (hC.mono HC.out.size (fun _ _ q => q)))
      clear hC HC
      have HC := HC2
      clear HC2
      go_wp2_with fail
      go_ret
      exact ⟨rfl, HC.out⟩
    | true =>
      have H7 := Lib.hid h7
      clear h7
      have t2 : (c + 146097 - c == 146097) = true := by rw [beq_iff_eq]; omega
      have HC := Lib.hid (Ch.refl w.heap.size none1 w)
      go_enter Tryd.func5, Tryd.ntmps5
      go_wp2_with fail
      with_reducible refine (H0.out _ (HW.out.ch HC.out)).mono ?_
      rintro e w0 ⟨rfl, hC⟩
      have HC2 := Lib.hid (HC.out.trans (hC.mono HC.out.size (fun _ _ q => q)))
      clear hC HC
      have HC := HC2
      clear HC2
      go_wp2_with fail
      with_reducible refine (H1.out _ (HW.out.ch HC.out)).mono ?_
      rintro e w1 ⟨rfl, hC⟩
      have HC2 := Lib.hid (HC.out.trans (hC.mono HC.out.size (fun _ _ q => q)))
      clear hC HC
      have HC := HC2
      clear HC2
      go_wp2_with fail
      with_reducible refine (H2.out _ (HW.out.ch HC.out)).mono ?_
      rintro e w2 ⟨rfl, hC⟩
      have HC2 := Lib.hid (HC.out.trans (hC.mono HC.out.size (fun _ _ q => q)))
      clear hC HC
      have HC := HC2
      clear HC2
      go_wp2_with fail
      with_reducible refine (H3.out _ (HW.out.ch HC.out)).mono ?_
      rintro e w3 ⟨rfl, hC⟩
      have HC2 := Lib.hid (HC.out.trans (hC.mono HC.out.size (fun _ _ q => q)))
      clear hC HC
      have HC := HC2
      clear HC2
      go_wp2_with fail
      with_reducible refine (H6.out _ (HW.out.ch HC.out)).mono ?_
      rintro e w4 ⟨rfl, hC⟩
      have HC2 := Lib.hid (HC.out.trans (hC.mono HC.out.size (fun _ _ q => q)))
      clear hC HC
      have HC := HC2
      clear HC2
      go_wp2_with fail
      with_reducible refine (H7.out _ (HW.out.ch HC.out)).mono ?_
      rintro e w5 ⟨rfl, hC⟩
      have HC2 := Lib.hid (HC.out.trans (hC.mono HC.out.size (fun _ _ q => q)))
      clear hC HC
      have HC := HC2
      clear HC2
      go_wp2_with fail
      with_reducible refine (H4.out _ (HW.out.ch HC.out)).mono ?_
      rintro e w6 ⟨rfl, hC⟩
      have HC2 := Lib.hid (HC.out.trans (hC.mono HC.out.size (fun _ _ q => q)))
      clear hC HC
      have HC := HC2
      clear HC2
      go_wp2_with fail
      with_reducible refine (H5.out _ (HW.out.ch HC.out)).mono ?_
      rintro e w7 ⟨rfl, hC⟩
      have HC2 := Lib.hid (HC.out.trans (hC.mono HC.out.size (fun _ _ q => q)))
      clear hC HC
      have HC := HC2
      clear HC2
      go_wp2_with fail
      go_ret
      exact ⟨rfl, HC.out⟩
end Go.Proofs.YteinonhpakfkcaaDoor
