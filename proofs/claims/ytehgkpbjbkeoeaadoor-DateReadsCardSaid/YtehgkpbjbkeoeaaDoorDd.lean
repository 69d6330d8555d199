/- Contracts of Weekday, Add and Months, of package date and of the reference. -/
import Derived.Test.YtehgkpbjbkeoeaaDoorDc
import Derived.Lib.MinMax
namespace Go.Proofs.YtehgkpbjbkeoeaaDoor
open Go.RowKit
theorem wrap_over {n : Int} (h1 : 9223372036854775807 < n) (h2 : n ≤ 18446744073709551615) : wrap64 n = n - 18446744073709551616 := by unfold wrap64; omega
namespace Cal
/-- The months from the first one of the year 1 on. -/
def mon (n k : Int) : Int := (cy n - 1) * 12 + cm n - 1 + k
def mth (n k : Int) : Int := num (mon n k / 12 + 1) (mon n k % 12 + 1) (min (cd n) (dim (mon n k / 12 + 1) (mon n k % 12 + 1)))
def mok (n k : Int) : Bool := right n && decide (0 ≤ mon n k ∧ mon n k < 119988)
end Cal
set_option maxRecDepth 100000 in
set_option maxHeartbeats 1600000 in
theorem Weekday_no (n : Int) (w : World) (h : Cal.right n = false) :
    Calls Tryd.prog 20 #[iz n] w fun e w' => e = .returned (.tuple #[iz 0, .bool false]) ∧ w = w' := by
  have HV := Lib.hid (isNumber_any n w)
  rw [h] at HV
  clear h
  go_enter Tryd.func20, Tryd.ntmps20
  go_wp2_with (go_at_call 35; with_reducible refine HV.out.mono ?_; rintro e w' ⟨rfl, rfl⟩)
  go_ret2
  exact ⟨rfl, rfl⟩
set_option maxRecDepth 100000 in
set_option maxHeartbeats 1600000 in
theorem Weekday_yes (n : Int) (w : World) (h : Cal.right n = true) :
    Calls Tryd.prog 20 #[iz n] w fun e w' => e = .returned (.tuple #[iz (n % 7 + 1), .bool true]) ∧ w = w' := by
  have HV := Lib.hid (isNumber_any n w)
  rw [h] at HV
  obtain ⟨h0, h1⟩ := Cal.right_iff.1 h
  clear h
  go_enter Tryd.func20, Tryd.ntmps20
  go_wp2_with (go_at_call 35; with_reducible refine HV.out.mono ?_; rintro e w' ⟨rfl, rfl⟩)
  go_ret2
  exact ⟨ret_2 (by omega), rfl⟩
set_option maxRecDepth 100000 in
set_option maxHeartbeats 1600000 in
theorem Months_no (n k : Int) (w : World) (ht : LenIs w) (hk1 : -9223372036854775808 ≤ k) (hk2 : k ≤ 9223372036854775807) (h : Cal.mok n k = false) :
    Calls Tryd.prog 21 #[iz n, iz k] w fun e w' => e = .returned (.tuple #[iz 0, .bool false]) ∧ w = w' := by
  rcases hr : Cal.right n
  · have HV := Lib.hid (Civil_no n w hr)
    clear h hr ht
    go_enter Tryd.func21, Tryd.ntmps21
    go_wp2_with (go_at_call 19; with_reducible refine HV.out.mono ?_; rintro e w' ⟨rfl, rfl⟩)
    go_ret2
    exact ⟨rfl, rfl⟩
  · obtain ⟨y1, y2, m1, m2, d1, d2⟩ := Cal.vld_iff.1 (Cal.civ_spec hr).1
    have HV := Lib.hid (Civil_yes n w ht hr)
    have d3 : Cal.cd n ≤ 31 := by have := Cal.dim_bd (Cal.cy n) (Cal.cm n); omega
    clear d2
    obtain ⟨y, hy⟩ : ∃ y, Cal.cy n = y := ⟨_, rfl⟩
    obtain ⟨m, hm⟩ : ∃ m, Cal.cm n = m := ⟨_, rfl⟩
    obtain ⟨d, hd⟩ : ∃ d, Cal.cd n = d := ⟨_, rfl⟩
    unfold Cal.mok Cal.mon at h
    rw [hr, Bool.true_and, hy, hm] at h
    have h : ¬ (0 ≤ (y - 1) * 12 + m - 1 + k ∧ (y - 1) * 12 + m - 1 + k < 119988) := by simpa using h
    rw [hy] at y1 y2
    rw [hm] at m1 m2
    rw [hd] at d1 d3
    rw [hy, hm, hd] at HV
    clear hy hm hd hr
    by_cases hlt : (y - 1) * 12 + m - 1 + k ≤ 9223372036854775807
    · by_cases h0 : (y - 1) * 12 + m - 1 + k < 0
      · clear h ht
        go_enter Tryd.func21, Tryd.ntmps21
        go_wp2_with (go_at_call 19; with_reducible refine HV.out.mono ?_; rintro e w' ⟨rfl, rfl⟩)
        go_ret2
        exact ⟨rfl, rfl⟩
      · have h9 : 119988 ≤ (y - 1) * 12 + m - 1 + k := by omega
        have HD := Lib.hid (monthLength_any (((y - 1) * 12 + m - 1 + k) / 12 + 1) (((y - 1) * 12 + m - 1 + k) % 12 + 1) w ht (by omega) (by omega) (by omega) (by omega))
        have db := Cal.dim_bd (((y - 1) * 12 + m - 1 + k) / 12 + 1) (((y - 1) * 12 + m - 1 + k) % 12 + 1)
        have HN := Lib.hid (Number_no (((y - 1) * 12 + m - 1 + k) / 12 + 1) (((y - 1) * 12 + m - 1 + k) % 12 + 1) (min d (Cal.dim (((y - 1) * 12 + m - 1 + k) / 12 + 1) (((y - 1) * 12 + m - 1 + k) % 12 + 1))) w ht (by omega) (Cal.vld_not.2 (by omega)))
        clear h ht
        go_enter Tryd.func21, Tryd.ntmps21
        go_wp2_with (first | (go_at_call 19; with_reducible refine HV.out.mono ?_; rintro e w' ⟨rfl, rfl⟩) | (go_at_call 34; with_reducible refine HD.out.mono ?_; rintro e w' ⟨rfl, rfl⟩) | (go_at_call 18; with_reducible refine HN.out.mono ?_; rintro e w' ⟨rfl, rfl⟩))
        go_ret2
        exact ⟨rfl, rfl⟩
    · have hw := wrap_over (n := (y - 1) * 12 + m - 1 + k) (by omega) (by omega)
      have h0 : wrap64 ((y - 1) * 12 + m - 1 + k) < 0 := by rw [hw]; omega
      clear h ht hw
      go_enter Tryd.func21, Tryd.ntmps21
      go_wp2_with (go_at_call 19; with_reducible refine HV.out.mono ?_; rintro e w' ⟨rfl, rfl⟩)
      go_ret2
      exact ⟨rfl, rfl⟩
set_option maxRecDepth 100000 in
set_option maxHeartbeats 1600000 in
theorem Months_yes (n k : Int) (w : World) (ht : LenIs w) (hk1 : -9223372036854775808 ≤ k) (hk2 : k ≤ 9223372036854775807) (h : Cal.mok n k = true) :
    Calls Tryd.prog 21 #[iz n, iz k] w fun e w' => e = .returned (.tuple #[iz (Cal.mth n k), .bool true]) ∧ w = w' := by
  have hr : Cal.right n = true := by unfold Cal.mok at h; rw [Bool.and_eq_true] at h; exact h.1
  obtain ⟨y1, y2, m1, m2, d1, d2⟩ := Cal.vld_iff.1 (Cal.civ_spec hr).1
  have HV := Lib.hid (Civil_yes n w ht hr)
  have d3 : Cal.cd n ≤ 31 := by have := Cal.dim_bd (Cal.cy n) (Cal.cm n); omega
  clear d2
  obtain ⟨y, hy⟩ : ∃ y, Cal.cy n = y := ⟨_, rfl⟩
  obtain ⟨m, hm⟩ : ∃ m, Cal.cm n = m := ⟨_, rfl⟩
  obtain ⟨d, hd⟩ : ∃ d, Cal.cd n = d := ⟨_, rfl⟩
  unfold Cal.mok at h
  rw [hr, Bool.true_and] at h
  have h : 0 ≤ Cal.mon n k ∧ Cal.mon n k < 119988 := by simpa using h
  have hs : Cal.mon n k = (y - 1) * 12 + m - 1 + k := by unfold Cal.mon; rw [hy, hm]
  have hF : Cal.mth n k = Cal.num (((y - 1) * 12 + m - 1 + k) / 12 + 1) (((y - 1) * 12 + m - 1 + k) % 12 + 1) (min d (Cal.dim (((y - 1) * 12 + m - 1 + k) / 12 + 1) (((y - 1) * 12 + m - 1 + k) % 12 + 1))) := by unfold Cal.mth; rw [hs, hd]
  rw [hs] at h
  obtain ⟨s0, s1⟩ := h
  have HF := Lib.hid hF
  rw [hy] at y1 y2
  rw [hm] at m1 m2
  rw [hd] at d1 d3
  rw [hy, hm, hd] at HV
  clear hy hm hd hr hs hF
  have HD := Lib.hid (monthLength_any (((y - 1) * 12 + m - 1 + k) / 12 + 1) (((y - 1) * 12 + m - 1 + k) % 12 + 1) w ht (by omega) (by omega) (by omega) (by omega))
  have db := Cal.dim_bd (((y - 1) * 12 + m - 1 + k) / 12 + 1) (((y - 1) * 12 + m - 1 + k) % 12 + 1)
  have HN := Lib.hid (Number_yes (((y - 1) * 12 + m - 1 + k) / 12 + 1) (((y - 1) * 12 + m - 1 + k) % 12 + 1) (min d (Cal.dim (((y - 1) * 12 + m - 1 + k) / 12 + 1) (((y - 1) * 12 + m - 1 + k) % 12 + 1))) w ht (Cal.vld_iff.2 (by omega)))
  clear ht
  go_enter Tryd.func21, Tryd.ntmps21
  go_wp2_with (first | (go_at_call 19; with_reducible refine HV.out.mono ?_; rintro e w' ⟨rfl, rfl⟩) | (go_at_call 34; with_reducible refine HD.out.mono ?_; rintro e w' ⟨rfl, rfl⟩) | (go_at_call 18; with_reducible refine HN.out.mono ?_; rintro e w' ⟨rfl, rfl⟩))
  go_ret2
  exact ⟨by rw [HF.out]; rfl, rfl⟩
end Go.Proofs.YtehgkpbjbkeoeaaDoor
