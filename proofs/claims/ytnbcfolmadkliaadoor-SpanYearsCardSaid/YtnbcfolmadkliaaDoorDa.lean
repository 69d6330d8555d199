/- The calendar: plain mathematics. -/
import Derived.RowKit
namespace Go.Proofs.YtnbcfolmadkliaaDoor
namespace Cal
/-- 1 in a leap year, else 0. -/
def lp (y : Int) : Int := if y % 4 = 0 ∧ (y % 100 ≠ 0 ∨ y % 400 = 0) then 1 else 0
def dim (y m : Int) : Int := if m = 2 then 28 + lp y else if m = 4 ∨ m = 6 ∨ m = 9 ∨ m = 11 then 30 else 31
/-- Days before a year. -/
def dby (y : Int) : Int := (y - 1) * 365 + (y - 1) / 4 - (y - 1) / 100 + (y - 1) / 400
/-- Days before a month of a year. -/
def cum (y m : Int) : Int :=
  if m ≤ 1 then 0 else if m ≤ 2 then 31 else lp y + (if m ≤ 3 then 59 else if m ≤ 4 then 90 else if m ≤ 5 then 120 else if m ≤ 6 then 151 else if m ≤ 7 then 181
    else if m ≤ 8 then 212 else if m ≤ 9 then 243 else if m ≤ 10 then 273 else if m ≤ 11 then 304 else if m ≤ 12 then 334 else 365)
def num (y m d : Int) : Int := dby y + cum y m + d - 1
def vld (y m d : Int) : Bool := decide (1 ≤ y ∧ y ≤ 9999 ∧ 1 ≤ m ∧ m ≤ 12 ∧ 1 ≤ d ∧ d ≤ dim y m)
def right (n : Int) : Bool := decide (0 ≤ n ∧ n ≤ 3652058)
def yof (n : Int) : Int := if dby (n * 400 / 146097 + 2) ≤ n then n * 400 / 146097 + 2 else n * 400 / 146097 + 1
def mof (y r : Int) : Int :=
  if r < cum y 2 then 1 else if r < cum y 3 then 2 else if r < cum y 4 then 3 else if r < cum y 5 then 4 else if r < cum y 6 then 5 else if r < cum y 7 then 6
    else if r < cum y 8 then 7 else if r < cum y 9 then 8 else if r < cum y 10 then 9 else if r < cum y 11 then 10 else if r < cum y 12 then 11 else 12
def cy (n : Int) : Int := yof n
def cm (n : Int) : Int := mof (yof n) (n - dby (yof n))
def cd (n : Int) : Int := n - dby (yof n) - cum (yof n) (cm n) + 1
theorem lp_01 (y : Int) : 0 ≤ lp y ∧ lp y ≤ 1 := by unfold lp; split <;> omega
theorem vld_iff {y m d : Int} : vld y m d = true ↔ 1 ≤ y ∧ y ≤ 9999 ∧ 1 ≤ m ∧ m ≤ 12 ∧ 1 ≤ d ∧ d ≤ dim y m := by simp [vld]
theorem vld_not {y m d : Int} : vld y m d = false ↔ ¬ (1 ≤ y ∧ y ≤ 9999 ∧ 1 ≤ m ∧ m ≤ 12 ∧ 1 ≤ d ∧ d ≤ dim y m) := by
  rw [← vld_iff]; simp
theorem right_iff {n : Int} : right n = true ↔ 0 ≤ n ∧ n ≤ 3652058 := by simp [right]
theorem right_not {n : Int} : right n = false ↔ n < 0 ∨ 3652058 < n := by simp [right]; omega
theorem dim_bd (y m : Int) : 28 ≤ dim y m ∧ dim y m ≤ 31 := by
  have := lp_01 y
  unfold dim
  split
  · omega
  · split <;> omega
theorem dby_succ (y : Int) : dby (y + 1) = dby y + 365 + lp y := by
  unfold dby lp
  split <;> omega
theorem dby_bd (y : Int) : 146097 * (y - 1) - 699 ≤ 400 * dby y ∧ 400 * dby y ≤ 146097 * (y - 1) + 396 := by unfold dby; omega
theorem dby_lt {a b : Int} (h : a < b) : dby a < dby b := by
  have h1 := dby_bd a
  have h2 := dby_bd b
  omega
theorem dby_le {a b : Int} (h : a ≤ b) : dby a ≤ dby b := by
  rcases Int.lt_or_eq_of_le h with h | h
  · exact Int.le_of_lt (dby_lt h)
  · rw [h]; exact Int.le_refl _
theorem dby_one : dby 1 = 0 := by decide
theorem dby_max : dby 10000 = 3652059 := by decide
theorem twelve {m : Int} (h1 : 1 ≤ m) (h2 : m ≤ 12) : m = 1 ∨ m = 2 ∨ m = 3 ∨ m = 4 ∨ m = 5 ∨ m = 6 ∨ m = 7 ∨ m = 8 ∨ m = 9 ∨ m = 10 ∨ m = 11 ∨ m = 12 := by omega
theorem cum_succ (y m : Int) (h1 : 1 ≤ m) (h2 : m ≤ 12) : cum y (m + 1) = cum y m + dim y m := by
  rcases twelve h1 h2 with rfl | rfl | rfl | rfl | rfl | rfl | rfl | rfl | rfl | rfl | rfl | rfl <;> simp [cum, dim] <;> omega
theorem cum_one (y : Int) : cum y 1 = 0 := rfl
theorem cum_end (y : Int) : cum y 13 = 365 + lp y := by simp [cum]; omega
theorem cum_bd (y m : Int) : 0 ≤ cum y m ∧ cum y m ≤ 366 := by
  have := lp_01 y
  unfold cum
  omega
theorem cum_step {y a b : Int} (h1 : 1 ≤ a) (h2 : a < b) (h3 : b ≤ 13) : cum y (a + 1) ≤ cum y b := by
  have := lp_01 y
  have e1 := twelve h1 (show a ≤ 12 by omega)
  unfold cum
  repeat' split
  all_goals omega
theorem yof_spec {n : Int} (h : right n = true) : 1 ≤ yof n ∧ yof n ≤ 9999 ∧ dby (yof n) ≤ n ∧ n < dby (yof n + 1) := by
  rw [right_iff] at h
  obtain ⟨e, he⟩ : ∃ e, n * 400 / 146097 = e := ⟨_, rfl⟩
  have h1 : 146097 * e ≤ 400 * n ∧ 400 * n < 146097 * (e + 1) := by omega
  have b1 := dby_bd (e + 1)
  have b3 := dby_bd (e + 3)
  have hs : 1 ≤ yof n ∧ dby (yof n) ≤ n ∧ n < dby (yof n + 1) := by
    unfold yof
    rw [he]
    split
    · refine ⟨by omega, by assumption, ?_⟩
      rw [show e + 2 + 1 = e + 3 from by omega]
      omega
    · refine ⟨by omega, by omega, ?_⟩
      rw [show e + 1 + 1 = e + 2 from by omega]
      omega
  refine ⟨hs.1, ?_, hs.2⟩
  rcases Int.lt_or_le 9999 (yof n) with hlt | hle
  · have := dby_le (show (10000 : Int) ≤ yof n by omega)
    rw [dby_max] at this
    omega
  · exact hle
theorem yof_uniq {n y : Int} (h : right n = true) (h1 : dby y ≤ n) (h2 : n < dby (y + 1)) : yof n = y := by
  obtain ⟨_, _, a, b⟩ := yof_spec h
  rcases Int.lt_trichotomy (yof n) y with q | q | q
  · have := dby_le (show yof n + 1 ≤ y by omega)
    omega
  · exact q
  · have := dby_le (show y + 1 ≤ yof n by omega)
    omega
theorem mof_spec {y r : Int} (h1 : 0 ≤ r) (h2 : r < 365 + lp y) : 1 ≤ mof y r ∧ mof y r ≤ 12 ∧ cum y (mof y r) ≤ r ∧ r < cum y (mof y r + 1) := by
  have e1 : cum y 1 = 0 := rfl
  have e13 := cum_end y
  unfold mof
  repeat' split
  all_goals (refine ⟨by omega, by omega, ?_, ?_⟩)
  all_goals first | omega | (simp only [Int.reduceAdd]; omega)
theorem mof_uniq {y r m : Int} (h1 : 0 ≤ r) (h2 : r < 365 + lp y) (hm1 : 1 ≤ m) (hm2 : m ≤ 12) (a : cum y m ≤ r) (b : r < cum y (m + 1)) : mof y r = m := by
  obtain ⟨c1, c2, c3, c4⟩ := mof_spec h1 h2
  rcases Int.lt_trichotomy (mof y r) m with q | q | q
  · have := cum_step (y := y) c1 q (by omega)
    omega
  · exact q
  · have := cum_step (y := y) hm1 q (by omega)
    omega
theorem civ_spec {n : Int} (h : right n = true) : vld (cy n) (cm n) (cd n) = true ∧ num (cy n) (cm n) (cd n) = n := by
  obtain ⟨a, b, c, d⟩ := yof_spec h
  rw [dby_succ] at d
  have hr : 0 ≤ n - dby (yof n) := by omega
  have hr2 : n - dby (yof n) < 365 + lp (yof n) := by omega
  obtain ⟨c1, c2, c3, c4⟩ := mof_spec hr hr2
  rw [cum_succ _ _ c1 c2] at c4
  refine ⟨vld_iff.2 ⟨a, b, c1, c2, ?_, ?_⟩, ?_⟩
  · show 1 ≤ n - dby (yof n) - cum (yof n) (mof (yof n) (n - dby (yof n))) + 1
    omega
  · show n - dby (yof n) - cum (yof n) (mof (yof n) (n - dby (yof n))) + 1 ≤ dim (yof n) (mof (yof n) (n - dby (yof n)))
    omega
  · show dby (yof n) + cum (yof n) (cm n) + (n - dby (yof n) - cum (yof n) (cm n) + 1) - 1 = n
    omega
theorem num_spec {y m d : Int} (h : vld y m d = true) : right (num y m d) = true ∧ cy (num y m d) = y ∧ cm (num y m d) = m ∧ cd (num y m d) = d := by
  obtain ⟨h1, h2, h3, h4, h5, h6⟩ := vld_iff.1 h
  have cs := cum_succ y m h3 h4
  have ce := cum_bd y m
  have c2 : cum y (m + 1) ≤ 365 + lp y := by
    rw [← cum_end]
    rcases Int.lt_or_le m 12 with q | q
    · have h1 := cum_step (y := y) h3 (show m < 13 by omega) (by omega)
      exact h1
    · rw [show m + 1 = 13 by omega]; exact Int.le_refl _
  have ds := dby_succ y
  have dl := dby_le (show 1 ≤ y from h1)
  have du := dby_le (show y + 1 ≤ 10000 by omega)
  rw [dby_one] at dl
  rw [dby_max] at du
  have hr : right (num y m d) = true := right_iff.2 (by unfold num; omega)
  have hy : yof (num y m d) = y := yof_uniq hr (by unfold num; omega) (by unfold num; omega)
  have hm : cm (num y m d) = m := by
    unfold cm
    rw [hy]
    exact mof_uniq (by unfold num; omega) (by unfold num; omega) h3 h4 (by unfold num; omega) (by unfold num; omega)
  refine ⟨hr, hy, hm, ?_⟩
  unfold cd
  rw [hy, hm]
  unfold num
  omega
theorem dim_pos {y m : Int} : 1 ≤ dim y m := by have := dim_bd y m; omega
end Cal
end Go.Proofs.YtnbcfolmadkliaaDoor
