/- Package money: a region whose ways meet again: a walk over its states. -/
import Derived.Test.YtkeomlpecjjhiaaGreatDoorAc
import Derived.Test.YtkeomlpecjjhiaaGreatDoorQw
namespace Go.Proofs.YtkeomlpecjjhiaaGreatDoor
open Go.RowKit
theorem Kq.put3 {w W : World} {g : Nat} {t : TypeId} {a b c : Value} {l : List (Nat × TypeId × List Value)} (h : Kq w W ((g, t, [a, b, c]) :: l)) (hg : w.heap.size ≤ g) (hl : ∀ p ∈ l, p.1 ≠ g) (x y z : Value) :
  Kq w (((W.setCell ⟨g, 0, none⟩ x).setCell ⟨g, 1, none⟩ y).setCell ⟨g, 2, none⟩ z) ((g, t, [x, y, z]) :: l) := by
 refine ⟨((h.ch.setCell (p := ⟨g, 0, none⟩) (.inl hg) x).setCell (p := ⟨g, 1, none⟩) (.inl hg) y).setCell (p := ⟨g, 2, none⟩) (.inl hg) z, fun p hp => ?_⟩
 rcases List.mem_cons.1 hp with rfl | hp
 ·exact (((h.row _ mm0).set 0 x).set 1 y).set 2 z
 ·have hne := hl p hp
  exact (((h.row _ (List.mem_cons_of_mem _ hp)).set_other hne 0 x).set_other hne 1 y).set_other hne 2 z
theorem C_ref1 : Ans 40 #[.int .i64 1] (S [1]) := C_refOf (n := 1) (l := [1]) nb_one (by decide) (by decide)
theorem C_ref100 : Ans 40 #[.int .i64 100] (S [100]) := C_refOf (n := 100) (l := [100]) (nb_is [100] _ (by decide) (by decide)) (by decide) (by decide)
theorem rt_100 : Rt [100] := .inr ⟨100, [], rfl, by decide⟩
set_option maxRecDepth 100000 in
set_option maxHeartbeats 3200000 in
theorem C_rcent : AnsM 45 #[] (Rv false [1] [100]) := fun w ht => by
 have H1 := Lib.hid C_ref1
 have H2 := Lib.hid C_ref100
 have H3 := Lib.hid (C_rMake (s := false) (n := [1]) (d := [100]) (by decide) (by decide) rt_1 rt_100 (by simp) (show Is (mq false (bv [1]) (bv [100])) false [1] [100] from ⟨by decide +kernel, by decide +kernel, by decide +kernel⟩))
 have HT := Lib.hid ht
 have HK := Lib.hid ((Kq.nil w).new #[.bool false, S [], S []] 26)
 obtain ⟨B, hB⟩ : ∃ B, w.heap.size = B := ⟨_, rfl⟩
 rw [hB] at HK
 have HBB := Lib.hid hB
 clear ht
 have HF1 := Lib.hid (show ∀ W, Kq w W [(B, 26, [.bool false, S [], S []])] → W.cell? ⟨B, 0, none⟩ = some (.bool false) ∧ W.cell? ⟨B, 1, none⟩ = some (S []) ∧ W.cell? ⟨B, 2, none⟩ = some (S []) from fun W h => ⟨(h.row _ mm0).cell 0, (h.row _ mm0).cell 1, (h.row _ mm0).cell 2⟩)
 obtain ⟨cc0, cc1, cc2⟩ := HF1.out _ HK.out
 go_enter Tryz.func45, Tryz.ntmps45
 go_wp2_with fail
 clear hB
 refine (H1.out _).mono ?_
 rintro e w1 ⟨rfl, hC⟩
 replace HK := Lib.hid (HK.out.on hC)
 clear hC cc0 cc1 cc2
 obtain ⟨cc0, cc1, cc2⟩ := HF1.out _ HK.out
 go_wp2_with fail
 refine (H2.out _).mono ?_
 rintro e w2 ⟨rfl, hC⟩
 replace HK := Lib.hid (HK.out.on hC)
 clear hC cc0 cc1 cc2
 obtain ⟨cc0, cc1, cc2⟩ := HF1.out _ HK.out
 go_wp2_with fail
 refine (H3.out _).mono ?_
 rintro e w3 ⟨rfl, hC⟩
 replace HK := Lib.hid (HK.out.on hC)
 clear hC cc0 cc1 cc2
 obtain ⟨cc0, cc1, cc2⟩ := HF1.out _ HK.out
 clear cc0 cc1 cc2
 have HKO := Lib.hid (HK.out.new #[.bool false, S [1], S [100]] 26)
 have n0 := (HKO.out.row _ mm0).cell 0
 have n1 := (HKO.out.row _ mm0).cell 1
 have n2 := (HKO.out.row _ mm0).cell 2
 have e0 := (HKO.out.row _ mm1).cell 0
 have e1 := (HKO.out.row _ mm1).cell 1
 have e2 := (HKO.out.row _ mm1).cell 2
 have f0 := (HKO.out.row _ mm1).frozen 0
 have f1 := (HKO.out.row _ mm1).frozen 1
 have f2 := (HKO.out.row _ mm1).frozen 2
 simp only [List.getElem?_cons_zero, List.getElem?_cons_succ] at n0 n1 n2 e0 e1 e2
 go_wp2_with fail
 have hp := HKO.out.put (g := B) mm1 (by have := HBB.out; omega) (.bool false) (S [1]) (S [100])
 refine bodyPost_ret (results_cell_row (P := Tryz.prog) rfl _ _ (B) 26 _ (0, 0) _ rfl hp.1 Tryz.underlying26 rfl (by kernel_rfl)) rfl ?_
 exact ⟨rfl, hp.2⟩
theorem sgr_one {q : Rat} (h : 0 < q) : sgr q = 1 := by
 have h1 : 0 < q.num := by
  have := Rat.num_nonneg.2 (Rat.le_of_lt h)
  have h2 : q.num ≠ 0 := fun e => (Rat.ne_of_lt h) (Rat.num_eq_zero.1 e).symm
  omega
 unfold sgr
 exact Int.sign_eq_one_of_pos h1
theorem neg_lt {q : Rat} (h : decide (q.num < 0) = true) : q < 0 := by
 have h1 := of_decide_eq_true h
 refine Rat.not_le.1 fun h2 => ?_
 have := Rat.num_nonneg.2 h2
 omega
theorem nneg_lt {q : Rat} (h : decide (q.num < 0) = false) : ¬ q < 0 := by
 have h1 := of_decide_eq_false h
 intro h2
 exact absurd (Rat.num_nonneg.1 (show 0 ≤ q.num by omega)) (Rat.not_le.2 h2)
theorem div_mono {a b t : Rat} (ht : 0 < t) (h : a ≤ b) : a / t ≤ b / t := by
 rw [Rat.div_def, Rat.div_def]
 exact Rat.mul_le_mul_of_nonneg_right h (Rat.le_of_lt (Rat.inv_pos.2 ht))
theorem downQ_mono {a b t : Rat} (ht : 0 < t) (h : a ≤ b) : downQ a t ≤ downQ b t := by
 unfold downQ
 have h1 := Rat.floor_monotone (div_mono ht h)
 exact Rat.mul_le_mul_of_nonneg_right (Rat.intCast_le_intCast.2 h1) (Rat.le_of_lt ht)
theorem downQ_mul {t : Rat} (ht : 0 < t) (z : Int) : downQ ((z : Rat) * t) t = (z : Rat) * t := by
 unfold downQ
 rw [Rat.mul_div_cancel (Ne.symm (Rat.ne_of_lt ht)), Rat.floor_intCast]
theorem downQ_is (a t : Rat) : ∃ z : Int, downQ a t = (z : Rat) * t := ⟨_, rfl⟩
theorem upQ_is (a t : Rat) : ∃ z : Int, upQ a t = (z : Rat) * t := by
 unfold upQ
 by_cases h : downQ a t = a
 ·rw [if_pos h]
  exact ⟨(a / t).floor, h.symm⟩
 ·rw [if_neg h]
  refine ⟨(a / t).floor + 1, ?_⟩
  unfold downQ
  rw [Rat.intCast_add, Rat.add_mul]
  simp
theorem le_upQ {a t : Rat} (ht : 0 < t) : a ≤ upQ a t := by
 unfold upQ
 by_cases h : downQ a t = a
 ·rw [if_pos h]; exact Rat.le_refl
 ·rw [if_neg h]; exact Rat.le_of_lt (downQ_lt ht)
theorem upQ_lt {a t : Rat} (ht : 0 < t) : upQ a t < a + t := by
 unfold upQ
 by_cases h : downQ a t = a
 ·rw [if_pos h]; grind
 ·rw [if_neg h]
  have h1 := downQ_le (a := a) ht
  have h2 : downQ a t < a := Rat.lt_of_le_of_ne h1 h
  grind
theorem upQ_least {a t : Rat} (ht : 0 < t) (z : Int) (h : a ≤ (z : Rat) * t) : upQ a t ≤ (z : Rat) * t := by
 obtain ⟨k, hk⟩ := upQ_is a t
 have h1 := upQ_lt (a := a) ht
 rw [hk] at h1 ⊢
 refine Rat.mul_le_mul_of_nonneg_right (Rat.intCast_le_intCast.2 ?_) (Rat.le_of_lt ht)
 apply Int.le_of_lt_add_one
 apply Rat.intCast_lt_intCast.1
 refine Rat.lt_of_mul_lt_mul_right (c := t) ?_ (Rat.le_of_lt ht)
 rw [Rat.intCast_add, Rat.add_mul]
 have : ((1 : Int) : Rat) * t = t := by simp
 rw [this]
 grind
theorem Kq.sub {w W : World} {l l' : List (Nat × TypeId × List Value)} (h : Kq w W l) (hs : ∀ p ∈ l', p ∈ l) : Kq w W l' := ⟨h.ch, fun p hp => h.row p (hs p hp)⟩
end Go.Proofs.YtkeomlpecjjhiaaGreatDoor
