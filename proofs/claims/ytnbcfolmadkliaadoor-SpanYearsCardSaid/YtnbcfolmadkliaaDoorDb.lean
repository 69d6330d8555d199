/- Contracts of package date's small functions of numbers, and of the reference's. -/
import Derived.Test.YtnbcfolmadkliaaDoorDa
import Derived.Test.YtnbcfolmadkliaaDoorNw
import Derived.Lib.LaidTab
namespace Go.Proofs.YtnbcfolmadkliaaDoor
open Go.RowKit
abbrev iz (n : Int) : Value := .int .i64 n
def monTab : List Int := [31, 28, 31, 30, 31, 30, 31, 31, 30, 31, 30, 31]
def LenIs (w : World) : Prop := Lib.TabIs Tryd.prog w "tithing/date.lengths" .i64 monTab
theorem len_glob : Tryd.prog.globalNamed "tithing/date.lengths" = some 0 := by kernel_rfl
theorem len_cell {w : World} (h : LenIs w) (y m : Int) (h1 : 1 ≤ m) (h2 : m ≤ 12) (hm : m = 2 → Cal.lp y = 0) : w.cell? ⟨0, (m - 1).toNat, none⟩ = some (iz (Cal.dim y m)) := by
  have hc := Lib.TabIs.cell h len_glob (m - 1).toNat (by simp [monTab]; omega)
  rw [hc]
  rcases Cal.twelve h1 h2 with rfl | rfl | rfl | rfl | rfl | rfl | rfl | rfl | rfl | rfl | rfl | rfl
  · rfl
  · have := hm rfl
    simp [Cal.dim, this, monTab]
  all_goals rfl
set_option maxRecDepth 100000 in
set_option maxHeartbeats 800000 in
theorem isLeap_any (y : Int) (w : World) (h0 : 0 ≤ y) (h1 : y ≤ 9223372036854775807) :
    Calls Tryd.prog 45 #[iz y] w fun e w' => e = .returned (.bool (Cal.lp y == 1)) ∧ w = w' := by
  by_cases a : y % 4 = 0
  · by_cases b : y % 100 = 0
    · by_cases c : y % 400 = 0
      · have HF := Lib.hid (show (Cal.lp y == 1) = true by simp [Cal.lp, a, b, c])
        go_enter Tryd.func45, Tryd.ntmps45
        go_wp2
        go_ret
        exact ⟨ret_bool HF.out.symm, rfl⟩
      · have HF := Lib.hid (show (Cal.lp y == 1) = false by simp [Cal.lp, a, b, c])
        have c2 : (y % 400 == 0) = false := by simpa using c
        go_enter Tryd.func45, Tryd.ntmps45
        go_wp2
        go_ret
        exact ⟨ret_bool HF.out.symm, rfl⟩
    · have HF := Lib.hid (show (Cal.lp y == 1) = true by simp [Cal.lp, a, b])
      go_enter Tryd.func45, Tryd.ntmps45
      go_wp2
      go_ret
      exact ⟨ret_bool HF.out.symm, rfl⟩
  · have HF := Lib.hid (show (Cal.lp y == 1) = false by simp [Cal.lp, a])
    go_enter Tryd.func45, Tryd.ntmps45
    go_wp2
    go_ret
    exact ⟨ret_bool HF.out.symm, rfl⟩
set_option maxRecDepth 100000 in
set_option maxHeartbeats 800000 in
theorem refLeap_any (y : Int) (w : World) (h0 : 0 ≤ y) (h1 : y ≤ 9223372036854775807) :
    Calls Tryd.prog 48 #[iz y] w fun e w' => e = .returned (.bool (Cal.lp y == 1)) ∧ w = w' := by
  by_cases a : y % 4 = 0
  · by_cases b : y % 100 = 0
    · by_cases c : y % 400 = 0
      · have HF := Lib.hid (show (Cal.lp y == 1) = true by simp [Cal.lp, a, b, c])
        go_enter Tryd.func48, Tryd.ntmps48
        go_wp2
        go_ret
        exact ⟨ret_bool HF.out.symm, rfl⟩
      · have HF := Lib.hid (show (Cal.lp y == 1) = false by simp [Cal.lp, a, b, c])
        have c2 : (y % 400 == 0) = false := by simpa using c
        go_enter Tryd.func48, Tryd.ntmps48
        go_wp2
        go_ret
        exact ⟨ret_bool HF.out.symm, rfl⟩
    · have HF := Lib.hid (show (Cal.lp y == 1) = true by simp [Cal.lp, a, b])
      go_enter Tryd.func48, Tryd.ntmps48
      go_wp2
      go_ret
      exact ⟨ret_bool HF.out.symm, rfl⟩
  · have HF := Lib.hid (show (Cal.lp y == 1) = false by simp [Cal.lp, a])
    go_enter Tryd.func48, Tryd.ntmps48
    go_wp2
    go_ret
    exact ⟨ret_bool HF.out.symm, rfl⟩
set_option maxRecDepth 100000 in
set_option maxHeartbeats 800000 in
theorem monthLength_any (y m : Int) (w : World) (ht : LenIs w) (h0 : 0 ≤ y) (h1 : y ≤ 9223372036854775807) (hm1 : 1 ≤ m) (hm2 : m ≤ 12) :
    Calls Tryd.prog 37 #[iz y, iz m] w fun e w' => e = .returned (iz (Cal.dim y m)) ∧ w = w' := by
  have HT := Lib.hid ht
  clear ht
  by_cases hm : m = 2
  · subst hm
    rcases (show Cal.lp y = 0 ∨ Cal.lp y = 1 from by have := Cal.lp_01 y; omega) with hl | hl
    · have hc := len_cell HT.out y 2 (by omega) (by omega) (fun _ => hl)
      rw [show ((2 : Int) - 1).toNat = 1 from rfl] at hc
      have HL := Lib.hid (isLeap_any y w h0 h1)
      rw [hl] at HL
      clear hl
      go_enter Tryd.func37, Tryd.ntmps37
      go_wp2_with (go_at_call 45; with_reducible refine HL.out.mono ?_; rintro e w' ⟨rfl, rfl⟩)
      go_ret
      exact ⟨rfl, rfl⟩
    · have HL := Lib.hid (isLeap_any y w h0 h1)
      rw [hl] at HL
      have HF := Lib.hid (show (29 : Int) = Cal.dim y 2 by simp [Cal.dim, hl])
      clear hl
      go_enter Tryd.func37, Tryd.ntmps37
      go_wp2_with (go_at_call 45; with_reducible refine HL.out.mono ?_; rintro e w' ⟨rfl, rfl⟩)
      go_ret
      exact ⟨ret_int HF.out, rfl⟩
  · have hc := len_cell HT.out y m hm1 hm2 (fun h => absurd h hm)
    have h5 : (m == 2) = false := by simpa using hm
    rw [show (m - 1).toNat = m.toNat - 1 from by omega] at hc
    go_enter Tryd.func37, Tryd.ntmps37
    go_wp2_with fail
    go_ret
    exact ⟨rfl, rfl⟩
set_option maxRecDepth 100000 in
set_option maxHeartbeats 800000 in
theorem refDays_any (y m : Int) (w : World) (h0 : 0 ≤ y) (h1 : y ≤ 9223372036854775807) (hm1 : 1 ≤ m) (hm2 : m ≤ 12) :
    Calls Tryd.prog 44 #[iz y, iz m] w fun e w' => e = .returned (iz (Cal.dim y m)) ∧ w = w' := by
  by_cases hm : m = 2
  · subst hm
    have HL := Lib.hid (refLeap_any y w h0 h1)
    rcases (show Cal.lp y = 0 ∨ Cal.lp y = 1 from by have := Cal.lp_01 y; omega) with hl | hl
    · rw [hl] at HL
      have HF := Lib.hid (show (28 : Int) = Cal.dim y 2 by simp [Cal.dim, hl])
      clear hl
      go_enter Tryd.func44, Tryd.ntmps44
      go_wp2_with (go_at_call 48; with_reducible refine HL.out.mono ?_; rintro e w' ⟨rfl, rfl⟩)
      go_ret
      exact ⟨ret_int HF.out, rfl⟩
    · rw [hl] at HL
      have HF := Lib.hid (show (29 : Int) = Cal.dim y 2 by simp [Cal.dim, hl])
      clear hl
      go_enter Tryd.func44, Tryd.ntmps44
      go_wp2_with (go_at_call 48; with_reducible refine HL.out.mono ?_; rintro e w' ⟨rfl, rfl⟩)
      go_ret
      exact ⟨ret_int HF.out, rfl⟩
  · rcases Cal.twelve hm1 hm2 with rfl | rfl | rfl | rfl | rfl | rfl | rfl | rfl | rfl | rfl | rfl | rfl
    case inr.inl => exact absurd rfl hm
    all_goals
      go_enter Tryd.func44, Tryd.ntmps44
      go_wp2_with fail
      go_ret
      exact ⟨rfl, rfl⟩
/-- Neither bound of an int is passed. -/
theorem dby_range (y : Int) (h0 : 0 ≤ y) (h1 : y ≤ 20000) : -400 ≤ Cal.dby y ∧ Cal.dby y ≤ 8000000 := by have := Cal.dby_bd y; omega
set_option maxRecDepth 100000 in
set_option maxHeartbeats 800000 in
theorem daysBefore_any (y : Int) (w : World) (h0 : 1 ≤ y) (h1 : y ≤ 20000) :
    Calls Tryd.prog 36 #[iz y] w fun e w' => e = .returned (iz (Cal.dby y)) ∧ w = w' := by
  go_enter Tryd.func36, Tryd.ntmps36
  go_wp2_with fail
  go_ret
  exact ⟨ret_int rfl, rfl⟩
set_option maxRecDepth 100000 in
set_option maxHeartbeats 800000 in
theorem refFirst_any (y : Int) (w : World) (h0 : 1 ≤ y) (h1 : y ≤ 20000) :
    Calls Tryd.prog 43 #[iz y] w fun e w' => e = .returned (iz (Cal.dby y)) ∧ w = w' := by
  go_enter Tryd.func43, Tryd.ntmps43
  go_wp2_with fail
  go_ret
  exact ⟨ret_int (by unfold Cal.dby; omega), rfl⟩
set_option maxRecDepth 100000 in
set_option maxHeartbeats 800000 in
theorem isNumber_any (n : Int) (w : World) :
    Calls Tryd.prog 34 #[iz n] w fun e w' => e = .returned (.bool (Cal.right n)) ∧ w = w' := by
  rcases hr : Cal.right n
  · have HF := Lib.hid hr
    rw [Cal.right_not] at hr
    rcases hr with h | h
    · have h2 : ¬ 0 ≤ n := by omega
      go_enter Tryd.func34, Tryd.ntmps34
      go_wp2_with fail
      go_ret
      exact ⟨rfl, rfl⟩
    · have h2 : ¬ n ≤ 3652058 := by omega
      have h3 : 0 ≤ n := by omega
      go_enter Tryd.func34, Tryd.ntmps34
      go_wp2_with fail
      go_ret
      exact ⟨rfl, rfl⟩
  · have HF := Lib.hid hr
    rw [Cal.right_iff] at hr
    obtain ⟨h1, h2⟩ := hr
    go_enter Tryd.func34, Tryd.ntmps34
    go_wp2_with fail
    go_ret
    exact ⟨rfl, rfl⟩
end Go.Proofs.YtnbcfolmadkliaaDoor
