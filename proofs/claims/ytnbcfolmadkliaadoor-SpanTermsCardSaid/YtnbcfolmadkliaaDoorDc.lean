/- Contracts of Valid, Number, Civil, Weekday and Add, of package date and of the reference. -/
import Derived.Test.YtnbcfolmadkliaaDoorDb
namespace Go.Proofs.YtnbcfolmadkliaaDoor
open Go.RowKit
theorem results_tmp4 {fn : Func} {t u v x : Tmp} (h : fn.results = #[.tmp t, .tmp u, .tmp v, .tmp x]) (tmps : Array Value) (P : Program) (w : World) :
    (results fn tmps).run P w = .ok (.tuple #[tmps.getD t undef, tmps.getD u undef, tmps.getD v undef, tmps.getD x undef]) w := by
  simp [results, h]
theorem ret_2 {a b : Int} {c : Bool} (h : a = b) : Ending.returned (.tuple #[iz a, .bool c]) = .returned (.tuple #[iz b, .bool c]) := by rw [h]
theorem civ_of {n y k : Int} (hy : Cal.yof n = y) (h1 : 0 ≤ n - Cal.dby y) (h2 : n - Cal.dby y < 365 + Cal.lp y) (k1 : 1 ≤ k) (k2 : k ≤ 12) (h3 : Cal.cum y k ≤ n - Cal.dby y) (h4 : n - Cal.dby y < Cal.cum y k + Cal.dim y k) :
    Cal.cy n = y ∧ Cal.cm n = k ∧ Cal.cd n = n - Cal.dby y - Cal.cum y k + 1 := by
  have hk : Cal.cm n = k := by
    unfold Cal.cm
    rw [hy]
    exact Cal.mof_uniq h1 h2 k1 k2 h3 (by rw [Cal.cum_succ _ _ k1 k2]; exact h4)
  refine ⟨hy, hk, ?_⟩
  unfold Cal.cd
  rw [hk, hy]
set_option maxRecDepth 100000 in
set_option maxHeartbeats 1600000 in
theorem Valid_any (y m d : Int) (w : World) (ht : LenIs w) (hy : y ≤ 9223372036854775807) :
    Calls Tryd.prog 41 #[iz y, iz m, iz d] w fun e w' => e = .returned (.bool (Cal.vld y m d)) ∧ w = w' := by
  have HT := Lib.hid ht
  clear ht
  by_cases h1 : 1 ≤ y
  rotate_left
  · have HF := Lib.hid (show Cal.vld y m d = false from Cal.vld_not.2 fun q => h1 (by omega))
    go_enter Tryd.func41, Tryd.ntmps41
    go_wp2_with fail
    go_ret
    exact ⟨ret_bool HF.out.symm, rfl⟩
  by_cases h2 : y ≤ 9999
  rotate_left
  · have HF := Lib.hid (show Cal.vld y m d = false from Cal.vld_not.2 fun q => h2 (by omega))
    go_enter Tryd.func41, Tryd.ntmps41
    go_wp2_with fail
    go_ret
    exact ⟨ret_bool HF.out.symm, rfl⟩
  by_cases h3 : 1 ≤ m
  rotate_left
  · have HF := Lib.hid (show Cal.vld y m d = false from Cal.vld_not.2 fun q => h3 (by omega))
    go_enter Tryd.func41, Tryd.ntmps41
    go_wp2_with fail
    go_ret
    exact ⟨ret_bool HF.out.symm, rfl⟩
  by_cases h4 : m ≤ 12
  rotate_left
  · have HF := Lib.hid (show Cal.vld y m d = false from Cal.vld_not.2 fun q => h4 (by omega))
    go_enter Tryd.func41, Tryd.ntmps41
    go_wp2_with fail
    go_ret
    exact ⟨ret_bool HF.out.symm, rfl⟩
  by_cases h5 : 1 ≤ d
  rotate_left
  · have HF := Lib.hid (show Cal.vld y m d = false from Cal.vld_not.2 fun q => h5 (by omega))
    go_enter Tryd.func41, Tryd.ntmps41
    go_wp2_with fail
    go_ret
    exact ⟨ret_bool HF.out.symm, rfl⟩
  have HD := Lib.hid (monthLength_any y m w HT.out (by omega) hy h3 h4)
  obtain ⟨D, hD⟩ : ∃ D, Cal.dim y m = D := ⟨_, rfl⟩
  rw [hD] at HD
  by_cases h6 : d ≤ D
  · have HF := Lib.hid (show Cal.vld y m d = true from Cal.vld_iff.2 ⟨h1, h2, h3, h4, h5, by omega⟩)
    clear hD
    have h7 : decide (d ≤ D) = true := by simpa using h6
    go_enter Tryd.func41, Tryd.ntmps41
    go_wp2_with fail
    refine HD.out.mono ?_
    rintro e w' ⟨rfl, rfl⟩
    go_wp2_with fail
    go_ret
    exact ⟨ret_bool HF.out.symm, rfl⟩
  · have HF := Lib.hid (show Cal.vld y m d = false from Cal.vld_not.2 fun q => h6 (by omega))
    clear hD
    have h7 : decide (d ≤ D) = false := by simpa using h6
    go_enter Tryd.func41, Tryd.ntmps41
    go_wp2_with fail
    refine HD.out.mono ?_
    rintro e w' ⟨rfl, rfl⟩
    go_wp2_with fail
    go_ret
    exact ⟨ret_bool HF.out.symm, rfl⟩
set_option maxRecDepth 100000 in
set_option maxHeartbeats 1600000 in
theorem refValid_any (y m d : Int) (w : World) (hy : y ≤ 9223372036854775807) :
    Calls Tryd.prog 42 #[iz y, iz m, iz d] w fun e w' => e = .returned (.bool (Cal.vld y m d)) ∧ w = w' := by
  by_cases h1 : 1 ≤ y
  rotate_left
  · have HF := Lib.hid (show Cal.vld y m d = false from Cal.vld_not.2 fun q => h1 (by omega))
    go_enter Tryd.func42, Tryd.ntmps42
    go_wp2_with fail
    go_ret
    exact ⟨ret_bool HF.out.symm, rfl⟩
  by_cases h2 : y ≤ 9999
  rotate_left
  · have HF := Lib.hid (show Cal.vld y m d = false from Cal.vld_not.2 fun q => h2 (by omega))
    go_enter Tryd.func42, Tryd.ntmps42
    go_wp2_with fail
    go_ret
    exact ⟨ret_bool HF.out.symm, rfl⟩
  by_cases h3 : 1 ≤ m
  rotate_left
  · have HF := Lib.hid (show Cal.vld y m d = false from Cal.vld_not.2 fun q => h3 (by omega))
    go_enter Tryd.func42, Tryd.ntmps42
    go_wp2_with fail
    go_ret
    exact ⟨ret_bool HF.out.symm, rfl⟩
  by_cases h4 : m ≤ 12
  rotate_left
  · have HF := Lib.hid (show Cal.vld y m d = false from Cal.vld_not.2 fun q => h4 (by omega))
    go_enter Tryd.func42, Tryd.ntmps42
    go_wp2_with fail
    go_ret
    exact ⟨ret_bool HF.out.symm, rfl⟩
  by_cases h5 : 1 ≤ d
  rotate_left
  · have HF := Lib.hid (show Cal.vld y m d = false from Cal.vld_not.2 fun q => h5 (by omega))
    go_enter Tryd.func42, Tryd.ntmps42
    go_wp2_with fail
    go_ret
    exact ⟨ret_bool HF.out.symm, rfl⟩
  have HD := Lib.hid (refDays_any y m w (by omega) hy h3 h4)
  obtain ⟨D, hD⟩ : ∃ D, Cal.dim y m = D := ⟨_, rfl⟩
  rw [hD] at HD
  by_cases h6 : d ≤ D
  · have HF := Lib.hid (show Cal.vld y m d = true from Cal.vld_iff.2 ⟨h1, h2, h3, h4, h5, by omega⟩)
    clear hD
    have h7 : decide (d ≤ D) = true := by simpa using h6
    go_enter Tryd.func42, Tryd.ntmps42
    go_wp2_with fail
    refine HD.out.mono ?_
    rintro e w' ⟨rfl, rfl⟩
    go_wp2_with fail
    go_ret
    exact ⟨ret_bool HF.out.symm, rfl⟩
  · have HF := Lib.hid (show Cal.vld y m d = false from Cal.vld_not.2 fun q => h6 (by omega))
    clear hD
    have h7 : decide (d ≤ D) = false := by simpa using h6
    go_enter Tryd.func42, Tryd.ntmps42
    go_wp2_with fail
    refine HD.out.mono ?_
    rintro e w' ⟨rfl, rfl⟩
    go_wp2_with fail
    go_ret
    exact ⟨ret_bool HF.out.symm, rfl⟩
set_option maxRecDepth 100000 in
set_option maxHeartbeats 1600000 in
theorem Number_no (y m d : Int) (w : World) (ht : LenIs w) (hy : y ≤ 9223372036854775807) (h : Cal.vld y m d = false) :
    Calls Tryd.prog 32 #[iz y, iz m, iz d] w fun e w' => e = .returned (.tuple #[iz 0, .bool false]) ∧ w = w' := by
  have HV := Lib.hid (Valid_any y m d w ht hy)
  rw [h] at HV
  clear h ht
  go_enter Tryd.func32, Tryd.ntmps32
  go_wp2_with (go_at_call 41; with_reducible refine HV.out.mono ?_; rintro e w' ⟨rfl, rfl⟩)
  go_ret2
  exact ⟨rfl, rfl⟩
set_option maxRecDepth 100000 in
set_option maxHeartbeats 1600000 in
theorem Number_yes (y m d : Int) (w : World) (ht : LenIs w) (h : Cal.vld y m d = true) :
    Calls Tryd.prog 32 #[iz y, iz m, iz d] w fun e w' => e = .returned (.tuple #[iz (Cal.num y m d), .bool true]) ∧ w = w' := by
  obtain ⟨h1, h2, h3, h4, h5, h6⟩ := Cal.vld_iff.1 h
  have HV := Lib.hid (Valid_any y m d w ht (by omega))
  rw [h] at HV
  have HB := Lib.hid (daysBefore_any y w (by omega) (by omega))
  have HD := Lib.hid (fun k (k1 : 1 ≤ k) (k2 : k ≤ 12) => monthLength_any y k w ht (by omega) (by omega) k1 k2)
  have hb := dby_range y (by omega) (by omega)
  have hd := Cal.dim_bd y m
  clear ht
  clear h
  have h7 : d ≤ 31 := by omega
  clear h6 hd
  go_enter Tryd.func32, Tryd.ntmps32
  go_wp2_with (first | (go_at_call 41; with_reducible refine HV.out.mono ?_; rintro e w' ⟨rfl, rfl⟩) | (go_at_call 36; with_reducible refine HB.out.mono ?_; rintro e w' ⟨rfl, rfl⟩))
  go_loop [8, 9] (fun s i => ∃ k : Int, 1 ≤ k ∧ k ≤ m ∧ i = iz k ∧ s = iz (Cal.dby y + Cal.cum y k)) (fun _ i => (m - intOf i).toNat)
  case atStart => exact ⟨1, by omega, by omega, rfl, by rw [Cal.cum_one]; go_num⟩
  case round =>
    obtain ⟨k, k1, k2, rfl, rfl⟩ := hrel
    have cb := Cal.cum_bd y k
    by_cases hlt : k < m
    · have H1 := Lib.hid (HD.out k k1 (by omega))
      have db := Cal.dim_bd y k
      have cs := Lib.hid (Cal.cum_succ y k k1 (by omega))
      go_wp2_with (go_at_call 37; with_reducible refine H1.out.mono ?_; rintro e w' ⟨rfl, rfl⟩)
      go_round
      case rel => exact ⟨k + 1, by omega, by omega, rfl, by rw [cs.out]; go_num⟩
      case measure => simp [intOf]; omega
    · have hk : k = m := by omega
      subst hk
      go_wp2_with fail
      go_ret2
      exact ⟨ret_2 (by unfold Cal.num; omega), rfl⟩
set_option maxRecDepth 100000 in
set_option maxHeartbeats 1600000 in
theorem refNumber_no (y m d : Int) (w : World) (hy : y ≤ 9223372036854775807) (h : Cal.vld y m d = false) :
    Calls Tryd.prog 33 #[iz y, iz m, iz d] w fun e w' => e = .returned (.tuple #[iz 0, .bool false]) ∧ w = w' := by
  have HV := Lib.hid (refValid_any y m d w hy)
  rw [h] at HV
  clear h 
  go_enter Tryd.func33, Tryd.ntmps33
  go_wp2_with (go_at_call 42; with_reducible refine HV.out.mono ?_; rintro e w' ⟨rfl, rfl⟩)
  go_ret2
  exact ⟨rfl, rfl⟩
set_option maxRecDepth 100000 in
set_option maxHeartbeats 1600000 in
theorem refNumber_yes (y m d : Int) (w : World) (h : Cal.vld y m d = true) :
    Calls Tryd.prog 33 #[iz y, iz m, iz d] w fun e w' => e = .returned (.tuple #[iz (Cal.num y m d), .bool true]) ∧ w = w' := by
  obtain ⟨h1, h2, h3, h4, h5, h6⟩ := Cal.vld_iff.1 h
  have HV := Lib.hid (refValid_any y m d w (by omega))
  rw [h] at HV
  have HB := Lib.hid (refFirst_any y w (by omega) (by omega))
  have HD := Lib.hid (fun k (k1 : 1 ≤ k) (k2 : k ≤ 12) => refDays_any y k w (by omega) (by omega) k1 k2)
  have hb := dby_range y (by omega) (by omega)
  have hd := Cal.dim_bd y m
  clear h
  have h7 : d ≤ 31 := by omega
  clear h6 hd
  go_enter Tryd.func33, Tryd.ntmps33
  go_wp2_with (first | (go_at_call 42; with_reducible refine HV.out.mono ?_; rintro e w' ⟨rfl, rfl⟩) | (go_at_call 43; with_reducible refine HB.out.mono ?_; rintro e w' ⟨rfl, rfl⟩))
  go_loop [9, 10] (fun s i => ∃ k : Int, 1 ≤ k ∧ k ≤ m ∧ i = iz k ∧ s = iz (Cal.dby y + d - 1 + Cal.cum y k)) (fun _ i => (m - intOf i).toNat)
  case atStart => exact ⟨1, by omega, by omega, rfl, by rw [Cal.cum_one]; go_num⟩
  case round =>
    obtain ⟨k, k1, k2, rfl, rfl⟩ := hrel
    have cb := Cal.cum_bd y k
    by_cases hlt : k < m
    · have H1 := Lib.hid (HD.out k k1 (by omega))
      have db := Cal.dim_bd y k
      have cs := Lib.hid (Cal.cum_succ y k k1 (by omega))
      go_wp2_with (go_at_call 44; with_reducible refine H1.out.mono ?_; rintro e w' ⟨rfl, rfl⟩)
      go_round
      case rel => exact ⟨k + 1, by omega, by omega, rfl, by rw [cs.out]; go_num⟩
      case measure => simp [intOf]; omega
    · have hk : k = m := by omega
      subst hk
      go_wp2_with fail
      go_ret2
      exact ⟨ret_2 (by unfold Cal.num; omega), rfl⟩
set_option maxRecDepth 100000 in
set_option maxHeartbeats 1600000 in
theorem yearOf_any (n : Int) (w : World) (h : Cal.right n = true) :
    Calls Tryd.prog 35 #[iz n] w fun e w' => e = .returned (iz (Cal.yof n)) ∧ w = w' := by
  obtain ⟨h0, h1⟩ := Cal.right_iff.1 h
  obtain ⟨c, hc⟩ : ∃ c, n * 400 / 146097 = c := ⟨_, rfl⟩
  have c1 : 0 ≤ c := by omega
  have c2 : c ≤ 9999 := by omega
  have hb := dby_range (c + 1 + 1) (by omega) (by omega)
  have HB := Lib.hid (daysBefore_any (c + 1 + 1) w (by omega) (by omega))
  obtain ⟨D, hD⟩ : ∃ D, Cal.dby (c + 1 + 1) = D := ⟨_, rfl⟩
  rw [hD] at hb HB
  have HDD := Lib.hid (show Cal.dby (c + 2) = D by rw [← hD, show c + 1 + 1 = c + 2 from by omega])
  clear h hD
  by_cases hlt : D ≤ n
  · have HF := Lib.hid (show Cal.yof n = c + 2 by unfold Cal.yof; rw [hc, HDD.out, if_pos hlt])
    go_enter Tryd.func35, Tryd.ntmps35
    go_wp2_with fail
    with_reducible refine HB.out.mono ?_
    rintro e w' ⟨rfl, rfl⟩
    go_wp2_with fail
    go_ret
    exact ⟨ret_int (by rw [HF.out]; omega), rfl⟩
  · have HF := Lib.hid (show Cal.yof n = c + 1 by unfold Cal.yof; rw [hc, HDD.out, if_neg hlt])
    go_enter Tryd.func35, Tryd.ntmps35
    go_wp2_with fail
    with_reducible refine HB.out.mono ?_
    rintro e w' ⟨rfl, rfl⟩
    go_wp2_with fail
    go_ret
    exact ⟨ret_int (by rw [HF.out]), rfl⟩
set_option maxRecDepth 100000 in
set_option maxHeartbeats 1600000 in
theorem Civil_no (n : Int) (w : World) (h : Cal.right n = false) :
    Calls Tryd.prog 20 #[iz n] w fun e w' => e = .returned (.tuple #[iz 0, iz 0, iz 0, .bool false]) ∧ w = w' := by
  have HV := Lib.hid (isNumber_any n w)
  rw [h] at HV
  clear h
  go_enter Tryd.func20, Tryd.ntmps20
  go_wp2_with (go_at_call 34; with_reducible refine HV.out.mono ?_; rintro e w' ⟨rfl, rfl⟩)
  refine bodyPost_ret (results_tmp4 rfl _ _ _) rfl ?_
  exact ⟨rfl, rfl⟩
set_option maxRecDepth 100000 in
set_option maxHeartbeats 1600000 in
theorem Civil_yes (n : Int) (w : World) (ht : LenIs w) (h : Cal.right n = true) :
    Calls Tryd.prog 20 #[iz n] w fun e w' => e = .returned (.tuple #[iz (Cal.cy n), iz (Cal.cm n), iz (Cal.cd n), .bool true]) ∧ w = w' := by
  obtain ⟨n0, n1⟩ := Cal.right_iff.1 h
  obtain ⟨y1, y2, y3, y4⟩ := Cal.yof_spec h
  have HV := Lib.hid (isNumber_any n w)
  rw [h] at HV
  have HY := Lib.hid (yearOf_any n w h)
  have HR := Lib.hid h
  obtain ⟨y, hy⟩ : ∃ y, Cal.yof n = y := ⟨_, rfl⟩
  rw [hy] at y1 y2 y3 y4 HY
  have HYY := Lib.hid hy
  rw [Cal.dby_succ] at y4
  have lb := Cal.lp_01 y
  have HB := Lib.hid (fun z (z1 : 1 ≤ z) (z2 : z ≤ 20000) => daysBefore_any z w z1 z2)
  have HD := Lib.hid (fun k (k1 : 1 ≤ k) (k2 : k ≤ 12) => monthLength_any y k w ht (by omega) (by omega) k1 k2)
  have HBY := Lib.hid (HB.out y (by omega) (by omega))
  have hb := dby_range y (by omega) (by omega)
  clear h hy ht
  go_enter Tryd.func20, Tryd.ntmps20
  go_wp2_with (first | (go_at_call 34; with_reducible refine HV.out.mono ?_; rintro e w' ⟨rfl, rfl⟩) | (go_at_call 35; with_reducible refine HY.out.mono ?_; rintro e w' ⟨rfl, rfl⟩) | (go_at_call 36; with_reducible refine HBY.out.mono ?_; rintro e w' ⟨rfl, rfl⟩))
  go_loop [3, 6] (fun a b => ∃ k : Int, 1 ≤ k ∧ k ≤ 12 ∧ a = iz k ∧ Cal.cum y k ≤ n - Cal.dby y ∧ b = iz (n - Cal.dby y - Cal.cum y k)) (fun a b => (12 - intOf a).toNat)
  case atStart => exact ⟨1, by omega, by omega, rfl, by rw [Cal.cum_one]; omega, by rw [Cal.cum_one]; go_num⟩
  case round =>
    obtain ⟨k, k1, k2, rfl, k3, rfl⟩ := hrel
    have cb := Cal.cum_bd y k
    have db := Cal.dim_bd y k
    have H1 := Lib.hid (HD.out k k1 k2)
    have cs := Lib.hid (Cal.cum_succ y k k1 k2)
    by_cases hlt : Cal.dim y k ≤ n - Cal.dby y - Cal.cum y k
    · have k4 : k < 12 := by
        have e1 := cs.out
        have e2 := Cal.cum_end y
        rcases Int.lt_or_eq_of_le k2 with q | q
        · exact q
        · rw [q, show (12 : Int) + 1 = 13 from rfl] at e1; rw [q] at hlt; omega
      go_wp2_with (go_at_call 37; with_reducible refine H1.out.mono ?_; rintro e w' ⟨rfl, rfl⟩)
      go_round
      case rel => exact ⟨k + 1, by omega, by omega, rfl, by rw [cs.out]; omega, by rw [cs.out]; go_num⟩
      case measure => simp [intOf]; omega
    · obtain ⟨f1, f2, f3⟩ := civ_of HYY.out (by omega) (by omega) k1 k2 k3 (by omega)
      have F1 := Lib.hid f1
      have F2 := Lib.hid f2
      have F3 := Lib.hid f3
      clear f1 f2 f3
      go_wp2_with (go_at_call 37; with_reducible refine H1.out.mono ?_; rintro e w' ⟨rfl, rfl⟩)
      refine bodyPost_ret (results_tmp4 rfl _ _ _) rfl ?_
      exact ⟨by rw [F1.out, F2.out, F3.out]; rfl, rfl⟩
end Go.Proofs.YtnbcfolmadkliaaDoor
