/- DateBack: the walk. -/
import Derived.Test.YteinonhpakfkcaaDoorDn
namespace Go.Proofs.YteinonhpakfkcaaDoor
open Go.RowKit Go.Shelf
namespace Cal
theorem mth_civ {n k : Int} (h : mok n k = true) : cy (mth n k) = mon n k / 12 + 1 ∧ cm (mth n k) = mon n k % 12 + 1 ∧ cd (mth n k) = min (cd n) (dim (mon n k / 12 + 1) (mon n k % 12 + 1)) ∧ right (mth n k) = true := by
  unfold mok at h
  rw [Bool.and_eq_true, decide_eq_true_eq] at h
  obtain ⟨hr, s0, s1⟩ := h
  have hd := (vld_iff.1 (civ_spec hr).1).2.2.2.2.1
  have db := dim_bd (mon n k / 12 + 1) (mon n k % 12 + 1)
  have hv : vld (mon n k / 12 + 1) (mon n k % 12 + 1) (min (cd n) (dim (mon n k / 12 + 1) (mon n k % 12 + 1))) = true := vld_iff.2 (by omega)
  have hs := num_spec hv
  exact ⟨hs.2.1, hs.2.2.1, hs.2.2.2, hs.1⟩
/-- What DateBack asks. -/
theorem back_spec {k p q : Int} (k0 : 0 ≤ k) (k1 : k < 3000000) (p0 : 0 ≤ p) (p1 : p < 2000) (q0 : 0 ≤ q) (q1 : q < 2000) :
    mok k p = true ∧ mok k (p + q) = true ∧ mok (mth k p) q = true ∧ mok (mth k p) (-p) = true ∧ cd (mth k p) ≤ cd k ∧ (cm k - 1 + p) % 12 = cm (mth k p) - 1 ∧ mth (mth k p) (-p) ≤ k ∧
    (cd k ≤ 28 → mth (mth k p) (-p) = k ∧ mth (mth k p) q = mth k (p + q) ∧ cd (mth k p) = cd k) := by
  have hr : right k = true := right_iff.2 (by omega)
  obtain ⟨hv, hn⟩ := civ_spec hr
  obtain ⟨y1, y2, m1, m2, d1, d2⟩ := vld_iff.1 hv
  have yb : cy k ≤ 8300 := by
    have h1 := (yof_spec hr).2.2.1
    have h2 := dby_bd (yof k)
    show yof k ≤ 8300
    omega
  have e1 : mok k p = true := by unfold mok mon; rw [hr, Bool.true_and, decide_eq_true_eq]; omega
  have e2 : mok k (p + q) = true := by unfold mok mon; rw [hr, Bool.true_and, decide_eq_true_eq]; omega
  obtain ⟨c1, c2, c3, c4⟩ := mth_civ e1
  have sx : ∀ j, mon (mth k p) j = mon k p + j := fun j => by unfold mon at *; rw [c1, c2]; omega
  have s0 : mon k p = (cy k - 1) * 12 + cm k - 1 + p := rfl
  have e3 : mok (mth k p) q = true := by unfold mok; rw [c4, Bool.true_and, decide_eq_true_eq, sx]; omega
  have e4 : mok (mth k p) (-p) = true := by unfold mok; rw [c4, Bool.true_and, decide_eq_true_eq, sx]; omega
  have sb : mon (mth k p) (-p) = (cy k - 1) * 12 + cm k - 1 := by rw [sx, s0]; omega
  have b1 : mon (mth k p) (-p) / 12 + 1 = cy k := by rw [sb]; omega
  have b2 : mon (mth k p) (-p) % 12 + 1 = cm k := by rw [sb]; omega
  have hb : mth (mth k p) (-p) = num (cy k) (cm k) (min (cd (mth k p)) (dim (cy k) (cm k))) := by
    show num (mon (mth k p) (-p) / 12 + 1) (mon (mth k p) (-p) % 12 + 1) (min (cd (mth k p)) (dim (mon (mth k p) (-p) / 12 + 1) (mon (mth k p) (-p) % 12 + 1))) = _
    rw [b1, b2]
  have hq : mth (mth k p) q = num (mon k (p + q) / 12 + 1) (mon k (p + q) % 12 + 1) (min (cd (mth k p)) (dim (mon k (p + q) / 12 + 1) (mon k (p + q) % 12 + 1))) := by
    have h : mon (mth k p) q = mon k (p + q) := by rw [sx]; unfold mon; omega
    show num (mon (mth k p) q / 12 + 1) (mon (mth k p) q % 12 + 1) _ = _
    rw [h]
  have hpq : mth k (p + q) = num (mon k (p + q) / 12 + 1) (mon k (p + q) % 12 + 1) (min (cd k) (dim (mon k (p + q) / 12 + 1) (mon k (p + q) % 12 + 1))) := rfl
  have hk : num (cy k) (cm k) (cd k) = k := hn
  have db := dim_bd (mon k p / 12 + 1) (mon k p % 12 + 1)
  refine ⟨e1, e2, e3, e4, by rw [c3]; omega, by rw [c2, s0]; omega, ?_, fun h28 => ?_⟩
  · rw [hb, c3]
    unfold num at hk ⊢
    omega
  · have hc : cd (mth k p) = cd k := by rw [c3]; omega
    refine ⟨?_, ?_, hc⟩
    · rw [hb, hc, show min (cd k) (dim (cy k) (cm k)) = cd k by omega, hk]
    · rw [hq, hpq, hc]
end Cal
set_option maxRecDepth 100000 in
set_option maxHeartbeats 3200000 in
theorem back_core (n a b : Int) (w : World) (hn : 0 ≤ n ∧ n ≤ 4294967295) (ha : 0 ≤ a ∧ a ≤ 65535) (hb : 0 ≤ b ∧ b ≤ 65535) (hw : Tw w) :
    Calls Tryd.prog 8 #[.int .u32 n, .int .u16 a, .int .u16 b] w (Yd w (.bool true)) := by
  obtain ⟨n0, n1⟩ := hn
  obtain ⟨a0, a1⟩ := ha
  obtain ⟨b0, b1⟩ := hb
  obtain ⟨k, hk⟩ : ∃ k, n % 3000000 = k := ⟨_, rfl⟩
  obtain ⟨p, hp⟩ : ∃ p, a % 2000 = p := ⟨_, rfl⟩
  obtain ⟨q, hq⟩ : ∃ q, b % 2000 = q := ⟨_, rfl⟩
  have k0 : 0 ≤ k := by omega
  have k1 : k < 3000000 := by omega
  have p0 : 0 ≤ p := by omega
  have p1 : p < 2000 := by omega
  have q0 : 0 ≤ q := by omega
  have q1 : q < 2000 := by omega
  obtain ⟨o1, o2, o3, o4, hl, hm, hle, h28⟩ := Cal.back_spec k0 k1 p0 p1 q0 q1
  have hr : Cal.right k = true := Cal.right_iff.2 (by omega)
  have hrx := (Cal.mth_civ o1).2.2.2
  have hv := (Cal.civ_spec hr).1
  obtain ⟨y1, y2, m1, m2, d1, d2⟩ := Cal.vld_iff.1 hv
  have hvx := (Cal.civ_spec hrx).1
  obtain ⟨yx1, yx2, mx1, mx2, dx1, dx2⟩ := Cal.vld_iff.1 hvx
  have HW := Lib.hid hw
  have H0 := Lib.hid sanity3
  have h1 := C_Mon (n := k) (k := p) (b := true) (by omega) (by omega) o1 rfl
  have h2 := C_Mon (n := k) (k := p + q) (b := true) (by omega) (by omega) o2 rfl
  have h3 := C_Mon (n := Cal.mth k p) (k := q) (b := true) (by omega) (by omega) o3 rfl
  have h4 := C_Mon (n := Cal.mth k p) (k := -p) (b := true) (by omega) (by omega) o4 rfl
  have h5 := C_Civ (n := k) (b := true) hr rfl rfl rfl
  have h6 := C_Civ (n := Cal.mth k p) (b := true) hrx rfl rfl rfl
  simp only [if_true] at h1 h2 h3 h4 h5 h6
  have dx3 : Cal.cd k ≤ 31 := by have := Cal.dim_bd (Cal.cy k) (Cal.cm k); omega
  clear o1 o2 o3 o4 hr hrx hv hvx d2 dx2 hw
  generalize Cal.mth (Cal.mth k p) (-p) = bk at *
  generalize Cal.mth (Cal.mth k p) q = yv at *
  generalize Cal.mth k (p + q) = bt at *
  generalize Cal.mth k p = x at *
  generalize Cal.cy k = ky at *
  generalize Cal.cm k = km at *
  generalize Cal.cd k = kd at *
  generalize Cal.cy x = xy at *
  generalize Cal.cm x = xm at *
  generalize Cal.cd x = xd at *
  have t1 : ((km - 1 + p) % 12 == xm - 1) = true := by rw [beq_iff_eq]; exact hm
  have t2 : ((km - 1 + p) % 12 != xm - 1) = false := by rw [bne, t1]; rfl
  have H1 := Lib.hid h1
  have H2 := Lib.hid h2
  have H5 := Lib.hid h5
  clear h1 h2 h5 hm
  by_cases hd : 28 < kd
  · have H3 := Lib.hid h3
    have H4 := Lib.hid h4
    have H6 := Lib.hid h6
    clear h3 h4 h6 h28
    have HC := Lib.hid (Ch.refl w.heap.size none1 w)
    go_enter Tryd.func8, Tryd.ntmps8
    go_wp2_with fail
    with_reducible refine (H0.out _ (HW.out.ch HC.out)).mono ?_
    rintro e w0 ⟨rfl, hC⟩
    have HC2 := Lib.hid (HC.out.trans (hC.mono HC.out.size (fun _ _ q => q)))
    clear hC HC
    have HC := HC2
    clear HC2
    go_wp2_with fail
    with_reducible refine (H1.out _ (HW.out.ch HC.out)).mono ?_
    rintro e w1 ⟨rfl, hC⟩
    have HC2 := Lib.hid (HC.out.trans (hC.mono HC.out.size (fun _ _ q => q)))
    clear hC HC
    have HC := HC2
    clear HC2
    go_wp2_with fail
    with_reducible refine (H2.out _ (HW.out.ch HC.out)).mono ?_
    rintro e w2 ⟨rfl, hC⟩
    have HC2 := Lib.hid (HC.out.trans (hC.mono HC.out.size (fun _ _ q => q)))
    clear hC HC
    have HC := HC2
    clear HC2
    go_wp2_with fail
    with_reducible refine (H3.out _ (HW.out.ch HC.out)).mono ?_
    rintro e w3 ⟨rfl, hC⟩
    have HC2 := Lib.hid (HC.out.trans (hC.mono HC.out.size (fun _ _ q => q)))
    clear hC HC
    have HC := HC2
    clear HC2
    go_wp2_with fail
    with_reducible refine (H4.out _ (HW.out.ch HC.out)).mono ?_
    rintro e w4 ⟨rfl, hC⟩
    have HC2 := Lib.hid (HC.out.trans (hC.mono HC.out.size (fun _ _ q => q)))
    clear hC HC
    have HC := HC2
    clear HC2
    go_wp2_with fail
    with_reducible refine (H5.out _ (HW.out.ch HC.out)).mono ?_
    rintro e w5 ⟨rfl, hC⟩
    have HC2 := Lib.hid (HC.out.trans (hC.mono HC.out.size (fun _ _ q => q)))
    clear hC HC
    have HC := HC2
    clear HC2
    go_wp2_with fail
    with_reducible refine (H6.out _ (HW.out.ch HC.out)).mono ?_
    rintro e w6 ⟨rfl, hC⟩
    have HC2 := Lib.hid (HC.out.trans (hC.mono HC.out.size (fun _ _ q => q)))
    clear hC HC
    have HC := HC2
    clear HC2
    go_wp2_with fail
    with_reducible refine (H5.out _ (HW.out.ch HC.out)).mono ?_
    rintro e w7 ⟨rfl, hC⟩
    have HC2 := Lib.hid (HC.out.trans (hC.mono HC.out.size (fun _ _ q => q)))
    clear hC HC
    have HC := HC2
    clear HC2
    go_wp2_with fail
    go_ret
    exact ⟨rfl, HC.out⟩
  · obtain ⟨rfl, rfl, rfl⟩ := h28 (by omega)
    clear hle hl
    have H3 := Lib.hid h3
    have H4 := Lib.hid h4
    have H6 := Lib.hid h6
    clear h3 h4 h6 h28
    have HC := Lib.hid (Ch.refl w.heap.size none1 w)
    go_enter Tryd.func8, Tryd.ntmps8
    go_wp2_with fail
    with_reducible refine (H0.out _ (HW.out.ch HC.out)).mono ?_
    rintro e w0 ⟨rfl, hC⟩
    have HC2 := Lib.hid (HC.out.trans (hC.mono HC.out.size (fun _ _ q => q)))
    clear hC HC
    have HC := HC2
    clear HC2
    go_wp2_with fail
    with_reducible refine (H1.out _ (HW.out.ch HC.out)).mono ?_
    rintro e w1 ⟨rfl, hC⟩
    have HC2 := Lib.hid (HC.out.trans (hC.mono HC.out.size (fun _ _ q => q)))
    clear hC HC
    have HC := HC2
    clear HC2
    go_wp2_with fail
    with_reducible refine (H2.out _ (HW.out.ch HC.out)).mono ?_
    rintro e w2 ⟨rfl, hC⟩
    have HC2 := Lib.hid (HC.out.trans (hC.mono HC.out.size (fun _ _ q => q)))
    clear hC HC
    have HC := HC2
    clear HC2
    go_wp2_with fail
    with_reducible refine (H3.out _ (HW.out.ch HC.out)).mono ?_
    rintro e w3 ⟨rfl, hC⟩
    have HC2 := Lib.hid (HC.out.trans (hC.mono HC.out.size (fun _ _ q => q)))
    clear hC HC
    have HC := HC2
    clear HC2
    go_wp2_with fail
    with_reducible refine (H4.out _ (HW.out.ch HC.out)).mono ?_
    rintro e w4 ⟨rfl, hC⟩
    have HC2 := Lib.hid (HC.out.trans (hC.mono HC.out.size (fun _ _ q => q)))
    clear hC HC
    have HC := HC2
    clear HC2
    go_wp2_with fail
    with_reducible refine (H5.out _ (HW.out.ch HC.out)).mono ?_
    rintro e w5 ⟨rfl, hC⟩
    have HC2 := Lib.hid (HC.out.trans (hC.mono HC.out.size (fun _ _ q => q)))
    clear hC HC
    have HC := HC2
    clear HC2
    go_wp2_with fail
    with_reducible refine (H6.out _ (HW.out.ch HC.out)).mono ?_
    rintro e w6 ⟨rfl, hC⟩
    have HC2 := Lib.hid (HC.out.trans (hC.mono HC.out.size (fun _ _ q => q)))
    clear hC HC
    have HC := HC2
    clear HC2
    go_wp2_with fail
    with_reducible refine (H5.out _ (HW.out.ch HC.out)).mono ?_
    rintro e w7 ⟨rfl, hC⟩
    have HC2 := Lib.hid (HC.out.trans (hC.mono HC.out.size (fun _ _ q => q)))
    clear hC HC
    have HC := HC2
    clear HC2
    go_wp2_with fail
    go_ret
    exact ⟨rfl, HC.out⟩
end Go.Proofs.YteinonhpakfkcaaDoor
