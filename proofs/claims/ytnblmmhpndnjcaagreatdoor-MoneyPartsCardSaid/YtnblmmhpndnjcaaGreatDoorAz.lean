/- Package money: a region whose ways meet again: a walk over its states. -/
import Derived.Test.YtnblmmhpndnjcaaGreatDoorAc
import Derived.Test.YtnblmmhpndnjcaaGreatDoorAx
namespace Go.Proofs.YtnblmmhpndnjcaaGreatDoor
open Go.RowKit
theorem div_mono {a b t : Rat} (ht : 0 < t) (h : a ≤ b) : a / t ≤ b / t := by
  rw [Rat.div_def, Rat.div_def]
  exact Rat.mul_le_mul_of_nonneg_right h (Rat.le_of_lt (Rat.inv_pos.2 ht))
theorem downQ_mono {a b t : Rat} (ht : 0 < t) (h : a ≤ b) : downQ a t ≤ downQ b t := by
  unfold downQ
  have h1 := Rat.floor_monotone (div_mono ht h)
  exact Rat.mul_le_mul_of_nonneg_right (Rat.intCast_le_intCast.2 h1) (Rat.le_of_lt ht)
theorem nearQ_mono {a b t : Rat} (ht : 0 < t) (h : a ≤ b) : nearQ a t ≤ nearQ b t := by
  unfold nearQ
  exact downQ_mono ht (Rat.add_le_add_right.2 h)
/-- A multiple is its own multiple below. -/
theorem downQ_mul {t : Rat} (ht : 0 < t) (z : Int) : downQ ((z : Rat) * t) t = (z : Rat) * t := by
  unfold downQ
  rw [Rat.mul_div_cancel (Ne.symm (Rat.ne_of_lt ht)), Rat.floor_intCast]
theorem downQ_is (a t : Rat) : ∃ z : Int, downQ a t = (z : Rat) * t := ⟨_, rfl⟩
theorem downQ_down {t : Rat} (ht : 0 < t) (a : Rat) : downQ (downQ a t) t = downQ a t := downQ_mul ht _
theorem upQ_is (a t : Rat) : ∃ z : Int, upQ a t = (z : Rat) * t := by
  unfold upQ
  by_cases h : downQ a t = a
  · rw [if_pos h]
    exact ⟨(a / t).floor, h.symm⟩
  · rw [if_neg h]
    refine ⟨(a / t).floor + 1, ?_⟩
    unfold downQ
    rw [Rat.intCast_add, Rat.add_mul]
    simp
theorem nearQ_is (a t : Rat) : ∃ z : Int, nearQ a t = (z : Rat) * t := ⟨_, rfl⟩
theorem upQ_mul {t : Rat} (ht : 0 < t) (z : Int) : upQ ((z : Rat) * t) t = (z : Rat) * t := by
  unfold upQ
  rw [if_pos (downQ_mul ht z)]
theorem le_upQ {a t : Rat} (ht : 0 < t) : a ≤ upQ a t := by
  unfold upQ
  by_cases h : downQ a t = a
  · rw [if_pos h]; exact Rat.le_refl
  · rw [if_neg h]; exact Rat.le_of_lt (downQ_lt ht)
theorem upQ_lt {a t : Rat} (ht : 0 < t) : upQ a t < a + t := by
  unfold upQ
  by_cases h : downQ a t = a
  · rw [if_pos h]; grind
  · rw [if_neg h]
    have h1 := downQ_le (a := a) ht
    have h2 : downQ a t < a := Rat.lt_of_le_of_ne h1 h
    grind
/-- The least multiple that is not less. -/
theorem upQ_least {a t : Rat} (ht : 0 < t) (z : Int) (h : a ≤ (z : Rat) * t) : upQ a t ≤ (z : Rat) * t := by
  obtain ⟨k, hk⟩ := upQ_is a t
  have h1 := upQ_lt (a := a) ht
  rw [hk] at h1 ⊢
  refine Rat.mul_le_mul_of_nonneg_right (Rat.intCast_le_intCast.2 ?_) (Rat.le_of_lt ht)
  apply Int.le_of_lt_add_one
  apply Rat.intCast_lt_intCast.1
  refine Rat.lt_of_mul_lt_mul_right (c := t) ?_ (Rat.le_of_lt ht)
  rw [Rat.intCast_add, Rat.add_mul]
  have : ((1 : Int) : Rat) * t = t := by simp
  rw [this]
  grind
theorem upQ_mono {a b t : Rat} (ht : 0 < t) (h : a ≤ b) : upQ a t ≤ upQ b t := by
  obtain ⟨k, hk⟩ := upQ_is b t
  have h1 := le_upQ (a := b) ht
  rw [hk] at h1 ⊢
  exact upQ_least ht k (Rat.le_trans h h1)
/-- Near is the nearer one of both. -/
theorem nearQ_eq {a t : Rat} (ht : 0 < t) : nearQ a t = if a - downQ a t < upQ a t - a then downQ a t else upQ a t := by
  obtain ⟨z, hz⟩ := downQ_is a t
  have h1 := downQ_le (a := a) ht
  have h2 := downQ_lt (a := a) ht
  have hlow : ∀ k : Int, (k : Rat) * t ≤ a + t * (1 / 2) → a + t * (1 / 2) < (k : Rat) * t + t → nearQ a t = (k : Rat) * t := by
    intro k h3 h4
    unfold nearQ downQ
    have hne : t ≠ 0 := Ne.symm (Rat.ne_of_lt ht)
    have e : ((a + t * (1 / 2)) / t).floor = k := by
      apply Int.le_antisymm
      · apply Int.le_of_lt_add_one
        rw [Rat.floor_lt_iff, Rat.div_lt_iff ht, Rat.intCast_add, Rat.add_mul]
        simpa using h4
      · rw [Rat.le_floor_iff]
        refine Rat.le_of_mul_le_mul_right (c := t) ?_ ht
        rw [Rat.div_mul_cancel hne]
        exact h3
    rw [e]
  by_cases hd : downQ a t = a
  · have hu : upQ a t = a := by unfold upQ; rw [if_pos hd]
    rw [hd, hu]
    rw [if_neg (by grind)]
    rw [hz] at hd
    rw [hlow z (by grind) (by grind), hd]
  · have hu : upQ a t = downQ a t + t := by unfold upQ; rw [if_neg hd]
    rw [hu]
    by_cases hc : a - downQ a t < downQ a t + t - a
    · rw [if_pos hc, hz]
      rw [hz] at hc h1
      exact hlow z (by grind) (by grind)
    · rw [if_neg hc, hz]
      rw [hz] at hc h2
      have e : (((z + 1 : Int)) : Rat) * t = (z : Rat) * t + t := by rw [Rat.intCast_add, Rat.add_mul]; simp
      rw [← e]
      exact hlow (z + 1) (by rw [e]; grind) (by rw [e]; grind)
end Go.Proofs.YtnblmmhpndnjcaaGreatDoor
namespace Go.Proofs.YtnblmmhpndnjcaaGreatDoor
open Go.RowKit
theorem wpAnyH_dp {P : Program} {md : Region.Mode} {ops : Array Oper} {Q : Exit → Act → World → Prop} {S : World → Prop} (Inv : Nat → Array Bool → Act → World → Prop)
    (h : ∀ f l a w, (∀ l a w, Inv f l a w → wpAnyH P md ops Q S f l a w) → Inv (f + 1) l a w → wpAnyH P md ops Q S (f + 1) l a w) (h0 : ∀ l a w, ¬ Inv 0 l a w) :
    ∀ f l a w, Inv f l a w → wpAnyH P md ops Q S f l a w
  | 0, l, a, w, hi => absurd hi (h0 l a w)
  | f + 1, l, a, w, hi => h f l a w (fun l a w hi => wpAnyH_dp Inv h h0 f l a w hi) hi
theorem Kq.sub {w W : World} {l l' : List (Nat × TypeId × List Value)} (h : Kq w W l) (hs : ∀ p ∈ l', p ∈ l) : Kq w W l' := ⟨h.ch, fun p hp => h.row p (hs p hp)⟩
end Go.Proofs.YtnblmmhpndnjcaaGreatDoor
